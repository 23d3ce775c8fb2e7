/- The laws of sites: SitesCasts; the helper LongSites. -/
import Derived.Test.YthooiofaicdhgaaGreatDoorSsk
import Derived.Test.YthooiofaicdhgaaGreatDoorSso
import Derived.Test.YthooiofaicdhgaaGreatDoorLgt
set_option linter.unusedSimpArgs false
set_option linter.unusedVariables false
set_option maxRecDepth 100000
namespace Go.Proofs.YthooiofaicdhgaaGreatDoor
open Go.ChangeShapes Go.WideShapes Go.ChangeAt Go.RowKit

theorem short_small {t : List Tab.C} (h : t.length ≤ 9 ∧ ∀ c ∈ t, ShortC c) : Small t :=
  ⟨by omega, fun c hc => by have := (h.2 c hc).1; omega, fun c hc => by have := (h.2 c hc).2.1; omega, fun c hc m hm => by have := (h.2 c hc).2.2 m hm; unfold ShortM at this; omega⟩

def ShortS (x : Tab.St) : Prop := x.a.size ≤ 30 ∧ x.b.size ≤ 30
def LongSP (l : List Tab.St) (e : Ending) : Prop := ∃ b, e = .returned (.bool b) ∧ (b = false → l.length ≤ 12 ∧ ∀ x ∈ l, ShortS x)
theorem longS_yes (l : List Tab.St) : LongSP l (.returned (.bool true)) := ⟨true, rfl, fun h => by cases h⟩

set_option maxHeartbeats 4000000 in
theorem longS_c (l : List Tab.St) (v : Value) (w : World) (h : SitesAt w v l) :
    Calls Tryz.prog 50 #[v] w fun e w' => LongSP l e ∧ w' = w := by
  obtain ⟨a, cp, rfl, h1, h2, hat⟩ := h
  unfold maxLen at h2
  have HAT := Lib.hid hat
  clear hat
  go_enter Tryz.func50, Tryz.ntmps50
  go_wp2_with fail
  go_loopw [3] (fun q wr => ∃ i : Nat, i ≤ l.length ∧ i ≤ 13 ∧ q = .int .i64 i ∧ wr = w ∧ ∀ x ∈ l.take i, ShortS x) (fun q wr => l.length - (intOf q).toNat)
  case atStart => exact ⟨0, Nat.zero_le _, by omega, rfl, rfl, by simp⟩
  case round =>
    obtain ⟨i, hi, hi13, rfl, rfl, hs⟩ := hrel
    have HS := Lib.hid hs
    clear hs
    by_cases hlt : i < l.length
    · have hltI : (i : Int) < (l.length : Int) := by omega
      by_cases ht : i < 13
      · have htI : (i : Int) < 13 := by omega
        have hx : l[i]? = some l[i] := List.getElem?_eq_getElem hlt
        have HX := Lib.hid hx
        obtain ⟨b, o, rfl, c0, c1, c2, z1, z2⟩ := HAT.out _ _ hx
        generalize l[i] = x at hx HX c0 c1 c2 z1 z2
        unfold maxLen at z1 z2
        clear hx
        by_cases q1 : 30 < x.a.size
        · have q1I : (30 : Int) < (x.a.size : Int) := by omega
          go_wp2_with fail
          go_ret
          exact ⟨longS_yes _, rfl⟩
        · have q1I : ¬ (30 : Int) < (x.a.size : Int) := by omega
          by_cases q2 : 30 < x.b.size
          · have q2I : (30 : Int) < (x.b.size : Int) := by omega
            go_wp2_with fail
            go_ret
            exact ⟨longS_yes _, rfl⟩
          · have q2I : ¬ (30 : Int) < (x.b.size : Int) := by omega
            have HN := Lib.hid (all_more HS.out HX.out (show ShortS x from ⟨by omega, by omega⟩))
            go_wp2_with fail
            go_roundw
            case rel => exact ⟨i + 1, by omega, by omega, by go_num, by first | trivial | rfl, HN.out⟩
            case measure => simp [intOf]; omega
      · have htI : ¬ (i : Int) < 13 := by omega
        have h12 : (12 : Int) < (l.length : Int) := by omega
        go_wp2_with fail
        go_ret
        exact ⟨longS_yes _, rfl⟩
    · have hltI : ¬ (i : Int) < (l.length : Int) := by omega
      obtain rfl : i = l.length := by omega
      have HN := Lib.hid HS.out
      rw [List.take_length] at HN
      by_cases h12 : 12 < l.length
      · have h12I : (12 : Int) < (l.length : Int) := by omega
        go_wp2_with fail
        go_ret
        exact ⟨longS_yes _, rfl⟩
      · have h12I : ¬ (12 : Int) < (l.length : Int) := by omega
        go_wp2_with fail
        go_ret
        exact ⟨⟨false, rfl, fun _ => ⟨by omega, HN.out⟩⟩, rfl⟩

theorem one_cast (t : List Tab.C) (s u : ByteArray) : Tab.sitesV t [⟨1, s, u⟩] = if Tab.isCast t s u = true then (0, 0) else (7, 0) := by
  unfold Tab.sitesV Tab.chkSites Tab.chkSites Tab.chkSite Tab.kindS
  rw [if_neg (by simp)]
  cases h : Tab.isCast t s u <;> simp [h]

set_option maxHeartbeats 8000000 in
theorem casts_c (t : List Tab.C) (a : Option Addr) (cp : Nat) (s u : ByteArray) (w : World) (hTb : Tb w) (h : TabAt w (.slice a t.length cp) t) (hs : s.size ≤ maxLen) (hu : u.size ≤ maxLen) :
    Calls Tryz.prog 13 #[.slice a t.length cp, .string s, .string u] w fun e w' => e = .returned (.bool true) ∧ Kept w w' := by
  have HTB := Lib.hid hTb
  have HT := Lib.hid h
  have HZ := Lib.hid (And.intro hs hu)
  unfold maxLen at hs hu
  clear hTb h
  go_enter Tryz.func13, Tryz.ntmps13
  go_wp2_with fail
  refine (awake9_c w HTB.out).mono ?_
  rintro e w1 ⟨rfl, k1⟩
  have HK1 := Lib.hid k1
  have HL := Lib.hid (long_c t (.slice a t.length cp) w1 (tab_kept HT.out k1))
  clear k1
  go_wp2_with fail
  refine HL.out.mono ?_
  rintro e w2 ⟨⟨lb, rfl, hsh⟩, k2⟩
  have HK2 := Lib.hid (HK1.out.trans k2)
  clear k2 HL
  cases lb with
  | true =>
    clear hsh
    go_wp2_with fail
    go_ret
    exact ⟨rfl, HK2.out⟩
  | false =>
    have HSM := Lib.hid (short_small (hsh rfl))
    clear hsh
    by_cases q1 : 30 < s.size
    · have q1I : (30 : Int) < (s.size : Int) := by omega
      go_wp2_with fail
      go_ret
      exact ⟨rfl, HK2.out⟩
    · have q1I : ¬ (30 : Int) < (s.size : Int) := by omega
      by_cases q2 : 30 < u.size
      · have q2I : (30 : Int) < (u.size : Int) := by omega
        go_wp2_with fail
        go_ret
        exact ⟨rfl, HK2.out⟩
      · have q2I : ¬ (30 : Int) < (u.size : Int) := by omega
        have HC := Lib.hid (check_c t a cp w2 (HTB.out.kept HK2.out) (tab_kept HT.out HK2.out) HSM.out)
        have HCO := Lib.hid (show (Tab.check t).1 = 0 → (Tab.check t).2 = 0 from fun e => by rw [Tab.check_zero e])
        generalize (Tab.check t).1 = c1 at HC HCO
        generalize (Tab.check t).2 = c2 at HC HCO
        go_wp2_with fail
        refine HC.out.mono ?_
        rintro e w3 ⟨rfl, k3⟩
        have HK3 := Lib.hid (HK2.out.trans k3)
        clear k3 HC
        by_cases hc1 : c1 = 0
        · obtain rfl : c2 = 0 := HCO.out hc1
          subst hc1
          have hN := Blk.new w3 80 #[.int .i64 1, .string s, .string u]
          have HK4 := Lib.hid (HK3.out.alloc (.cells #[.int .i64 1, .string s, .string u] 80))
          have HCS := Lib.hid (checkS_c t a cp [⟨1, s, u⟩] (some ⟨w3.heap.size, 0, none⟩) 1 (w3.alloc (.cells #[.int .i64 1, .string s, .string u] 80)) (HTB.out.kept HK4.out) (tab_kept HT.out HK4.out) HSM.out
            (row_1 ⟨hN.cell 0, hN.cell 1, hN.cell 2, HZ.out.1, HZ.out.2⟩))
          rw [one_cast] at HCS
          have HG := Lib.hid (fun W (k : Kept w W) => goes_cc t a cp s u W (HTB.out.kept k) (tab_kept HT.out k) HSM.out HZ.out.1 HZ.out.2)
          have HS := Lib.hid (fun W (k : Kept w W) => sub_c t a cp s u W (HTB.out.kept k) (tab_kept HT.out k) HSM.out)
          have hic : Tab.isCast t s u = (Tab.goes t s u && !Tab.sub t s u) := rfl
          rw [hic] at HCS
          clear hN hic
          cases hg : Tab.goes t s u with
          | false =>
            rw [hg] at HCS HG
            simp only [Bool.false_and] at HCS
            clear hg
            go_wp2_with fail
            refine HCS.out.mono ?_
            rintro e w5 ⟨rfl, k5⟩
            have HK5 := Lib.hid (HK4.out.trans k5)
            clear k5 HCS
            go_wp2_with fail
            refine (HG.out _ HK5.out).mono ?_
            rintro e w6 ⟨rfl, k6⟩
            have HK6 := Lib.hid (HK5.out.trans k6)
            clear k6 HG
            go_wp2_with fail
            go_ret
            exact ⟨rfl, HK6.out⟩
          | true =>
            rw [hg] at HCS HG
            simp only [Bool.true_and] at HCS
            clear hg
            cases hb : Tab.sub t s u with
            | false =>
              rw [hb] at HCS HS
              simp only [Bool.not_false, if_true] at HCS
              clear hb
              go_wp2_with fail
              refine HCS.out.mono ?_
              rintro e w5 ⟨rfl, k5⟩
              have HK5 := Lib.hid (HK4.out.trans k5)
              clear k5 HCS
              go_wp2_with fail
              refine (HG.out _ HK5.out).mono ?_
              rintro e w6 ⟨rfl, k6⟩
              have HK6 := Lib.hid (HK5.out.trans k6)
              clear k6 HG
              go_wp2_with fail
              refine (HS.out _ HK6.out).mono ?_
              rintro e w7 ⟨rfl, k7⟩
              have HK7 := Lib.hid (HK6.out.trans k7)
              clear k7 HS
              go_wp2_with fail
              go_ret
              exact ⟨rfl, HK7.out⟩
            | true =>
              rw [hb] at HCS HS
              simp only [Bool.not_true] at HCS
              clear hb
              go_wp2_with fail
              refine HCS.out.mono ?_
              rintro e w5 ⟨rfl, k5⟩
              have HK5 := Lib.hid (HK4.out.trans k5)
              clear k5 HCS
              go_wp2_with fail
              refine (HG.out _ HK5.out).mono ?_
              rintro e w6 ⟨rfl, k6⟩
              have HK6 := Lib.hid (HK5.out.trans k6)
              clear k6 HG
              go_wp2_with fail
              refine (HS.out _ HK6.out).mono ?_
              rintro e w7 ⟨rfl, k7⟩
              have HK7 := Lib.hid (HK6.out.trans k7)
              clear k7 HS
              go_wp2_with fail
              go_ret
              exact ⟨rfl, HK7.out⟩
        · have hc1b : (c1 == 0) = false := by simpa using hc1
          go_wp2_with fail
          go_ret
          exact ⟨rfl, HK3.out⟩

end Go.Proofs.YthooiofaicdhgaaGreatDoor
