/- The contract of sites.Check. -/
import Derived.Test.YthooiofaicdhgaaGreatDoorSsn
import Derived.Test.YthooiofaicdhgaaGreatDoorSmp
set_option linter.unusedSimpArgs false
set_option linter.unusedVariables false
set_option maxRecDepth 100000
namespace Go.Proofs.YthooiofaicdhgaaGreatDoor
open Go.ChangeShapes Go.WideShapes Go.ChangeAt Go.RowKit

theorem zero_passed (W : World) : (zeroValue 142).run Tryz.prog W = .ok (.agg #[]) W := Tryz.zeroValue142 W

theorem e63 : Tab.dynB.toList = [63] := by kernel_rfl
theorem q63_yes {s : ByteArray} (h : s = Tab.dynB) : (s.toList == [63]) = true := by rw [h, e63]; rfl
theorem q63_no {s : ByteArray} (h : ¬ s = Tab.dynB) : (s.toList == [63]) = false := by have := beq_no h; rwa [e63] at this

/-- Between rounds of Check. -/
def ChS (t : List Tab.C) (l : List Tab.St) (b : Nat) (w : World) (q : Value) (W : World) : Prop :=
  ∃ (i n : Nat) (D : List Tab.P2), i ≤ l.length ∧ n ≤ i ∧ q = .int .i64 i ∧ (∀ x ∈ l.take i, Tab.chkSite t x = 0) ∧ Kept w W ∧ Blk W w.heap.size 38 #[.int .i64 0, .int .i64 0] ∧ MapS b n D (fun _ => .agg #[]) W ∧ (∀ p ∈ D, Tab.isCast t p.1 p.2 = true) ∧ w.heap.size < b

theorem chk_at {t : List Tab.C} {l : List Tab.St} {i : Nat} {x : Tab.St} (hx : l[i]? = some x) (h : ∀ y ∈ l.take i, Tab.chkSite t y = 0) (hn : ¬ Tab.chkSite t x = 0) : Tab.chkSites t 0 l = (Tab.chkSite t x, (i : Int)) := by
  have hi : i < l.length := (List.getElem?_eq_some_iff.1 hx).1
  rw [Tab.chk_drop i h (Nat.le_of_lt hi), List.drop_eq_getElem_cons hi]
  have : l[i] = x := by rw [List.getElem?_eq_getElem hi] at hx; exact Option.some.inj hx
  rw [this]
  unfold Tab.chkSites
  rw [if_neg hn]
  simp
theorem chk_all {t : List Tab.C} {l : List Tab.St} (h : ∀ y ∈ l.take l.length, Tab.chkSite t y = 0) : Tab.chkSites t 0 l = (0, 0) := by
  rw [List.take_length] at h
  exact Tab.chk_zero (Tab.chk_iff.2 h)
theorem chk_more {t : List Tab.C} {l : List Tab.St} {i : Nat} {x : Tab.St} (hx : l[i]? = some x) (h : ∀ y ∈ l.take i, Tab.chkSite t y = 0) (hz : Tab.chkSite t x = 0) : ∀ y ∈ l.take (i + 1), Tab.chkSite t y = 0 := by
  intro y hy
  rw [List.take_add_one, hx] at hy
  rcases List.mem_append.1 hy with hy | hy
  · exact h y hy
  · obtain rfl : y = x := by simpa using hy
    exact hz

set_option maxHeartbeats 16000000 in
theorem checkS_c (t : List Tab.C) (ta : Option Addr) (tc : Nat) (l : List Tab.St) (a : Option Addr) (cp : Nat) (w : World) (hTb : Tb w) (ht : TabAt w (.slice ta t.length tc) t) (hS : Small t) (h : SitesAt w (.slice a l.length cp) l) :
    Calls Tryz.prog 53 #[.slice ta t.length tc, .slice a l.length cp] w fun e w' => e = .returned (.agg #[.int .i64 (Tab.sitesV t l).1, .int .i64 (Tab.sitesV t l).2]) ∧ Kept w w' := by
  have HIC := Lib.hid (fun (x y : ByteArray) (W : World) (k : Kept w W) => isCast_c t ta tc x y W (hTb.kept k) (tab_kept ht k) hS)
  obtain ⟨_, c', e, h1, h2, hat⟩ := h
  injection e with e1 _ e3
  subst e1 e3
  unfold maxLen at h2
  have HAT := Lib.hid hat
  obtain ⟨ans, hans⟩ : ∃ r, Tab.sitesV t l = r := ⟨_, rfl⟩
  rw [hans]
  have HA := Lib.hid hans
  clear hat hTb ht hS hans
  have B0 := Lib.hid (Blk.new w 38 #[.int .i64 0, .int .i64 0])
  have HK0 := Lib.hid ((Kept.refl w).alloc (.cells #[.int .i64 0, .int .i64 0] 38))
  by_cases hl : 5000 < l.length
  · have hlI : (5000 : Int) < (l.length : Int) := by omega
    obtain rfl : ans = (12, 5000) := by rw [← HA.out]; unfold Tab.sitesV; exact if_pos hl
    have p0 := B0.out.cell 0
    have p1 := B0.out.cell 1
    have f0 := B0.out.frozen 0
    have f1 := B0.out.frozen 1
    simp only [List.getElem?_toArray, List.getElem?_cons_zero, List.getElem?_cons_succ] at p0 p1
    go_enter Tryz.func53, Tryz.ntmps53
    go_wp2_with fail
    exact bodyPost_ret (v := .agg #[.int .i64 12, .int .i64 5000]) (by simp [results, Tryz.results53, go_sem]) rfl ⟨rfl, (Kept.refl w).alloc _⟩
  · have hlI : ¬ (5000 : Int) < (l.length : Int) := by omega
    have HA2 := Lib.hid (show Tab.chkSites t 0 l = ans by rw [← HA.out]; unfold Tab.sitesV; rw [if_neg hl])
    have HM := Lib.hid (MapS.made (w.alloc (.cells #[.int .i64 0, .int .i64 0] 38)) (fun _ => .agg #[]))
    have HK1 := Lib.hid (HK0.out.alloc (.map #[] 0))
    have B1 := Lib.hid (B0.out.alloc (.map #[] 0))
    have hMsz : w.heap.size < (w.alloc (.cells #[.int .i64 0, .int .i64 0] 38)).heap.size := by simp
    have HMK := Lib.hid HM.out
    rw [World.size_alloc] at HMK
    have hmm := @run_makeMap Tryz.prog
    clear hMsz
    go_enter Tryz.func53, Tryz.ntmps53
    go_wp2_with fail
    clear hmm
    go_loopw [18] (fun q wr => ChS t l (w.heap.size + 1) w q wr) (fun q wr => l.length - (intOf q).toNat)
    case atStart => exact ⟨0, 0, [], Nat.zero_le _, Nat.le_refl _, rfl, by simp, HK1.out, B1.out, HMK.out, fun p hp => (by cases hp), Nat.lt_succ_self _⟩
    case round =>
      obtain ⟨i, n, D, hi, hni, rfl, hz, hk, hb, hm, hd, _⟩ := hrel
      have HZ := Lib.hid hz
      have HK := Lib.hid hk
      have HB := Lib.hid hb
      have HMP := Lib.hid hm
      have HD := Lib.hid hd
      clear hz hk hb hm hd
      obtain ⟨wo, rfl⟩ : ∃ wo, wo = wr := ⟨_, rfl⟩
      by_cases hlt : i < l.length
      · have hltI : (i : Int) < (l.length : Int) := by omega
        have hx : l[i]? = some l[i] := List.getElem?_eq_getElem hlt
        obtain ⟨sb, so, rfl, hst⟩ := HAT.out _ _ hx
        generalize l[i] = x at hx hst
        have HX := Lib.hid hx
        obtain ⟨c0, c1, c2, z1, z2⟩ := hst.kept HK.out
        have HSO := Lib.hid (fun W => sidesOf_c x.what x.a x.b W)
        have HKD := Lib.hid (fun W => kindOf_c x.what x.a x.b W)
        obtain ⟨q, hq⟩ : ∃ q, Tab.kindS ⟨x.what, x.a, x.b⟩ = q := ⟨_, rfl⟩
        have HQ := Lib.hid (show Tab.kindS x = q from hq)
        rw [hq] at HKD
        have HIC2 := Lib.hid (fun W k => HIC.out x.a x.b W k z1 z2)
        have HFI := Lib.hid (show Fine (x.a, x.b) from ⟨z1, z2⟩)
        have B7 := Lib.hid (Blk.new wo 80 #[.int .i64 x.what, .string x.a, .string x.b])
        have HKA := Lib.hid ((Kept.refl wo).alloc (.cells #[.int .i64 x.what, .string x.a, .string x.b] 80))
        obtain ⟨W1, hW1⟩ : ∃ W1, wo.alloc (.cells #[.int .i64 x.what, .string x.a, .string x.b] 80) = W1 := ⟨_, rfl⟩
        rw [hW1] at B7 HKA
        have HW1 := Lib.hid hW1
        clear hx hst hq z1 z2 hW1
        go_wp2_with fail
        refine (HSO.out _).mono ?_
        rintro e w2 ⟨rfl, k2⟩
        rw [show wo.alloc (.cells #[.int .i64 x.what, .string x.a, .string x.b] 80) = W1 from HW1.out] at k2
        have HK2 := Lib.hid (HKA.out.trans k2)
        have b7 := (B7.out.kept k2).alloc (.cells #[.string x.a, .string x.b] 138)
        have b8 := Blk.new w2 138 #[.string x.a, .string x.b]
        have HK3 := Lib.hid (HK2.out.alloc (.cells #[.string x.a, .string x.b] 138))
        have p0 := b7.cell 0
        have p1 := b7.cell 1
        have p2 := b7.cell 2
        simp only [List.getElem?_toArray, List.getElem?_cons_zero, List.getElem?_cons_succ] at p0 p1 p2
        have B8 := Lib.hid b8
        clear k2 b7 b8 c0 c1 c2
        go_wp2_with fail
        refine (HKD.out _).mono ?_
        rintro e w4 ⟨rfl, k4⟩
        have HK4 := Lib.hid (HK3.out.trans k4)
        have b8 := B8.out.kept k4
        have r0 := b8.cell 0
        have r1 := b8.cell 1
        have b4 := HB.out.kept HK4.out
        have B4 := Lib.hid b4
        have g0 := b4.cell 0
        have g1 := b4.cell 1
        have f0 := b4.frozen 0
        have f1 := b4.frozen 1
        simp only [List.getElem?_toArray, List.getElem?_cons_zero, List.getElem?_cons_succ] at r0 r1 g0 g1
        have B84 := Lib.hid b8
        clear p0 p1 p2 k4 b8 b4
        by_cases q0 : q = 0
        · have HAN := Lib.hid (show ans = (2, (i : Int)) by
            have hc : Tab.chkSite t x = 2 := by unfold Tab.chkSite; rw [HQ.out, if_pos q0]
            rw [← HA2.out, chk_at HX.out HZ.out (by rw [hc]; decide), hc])
          subst q0
          go_wp2_with fail
          have hK := ((HK.out.trans HK4.out).setCell (p := ⟨w.heap.size, 0, none⟩) (Nat.le_refl _) (.int .i64 2)).setCell (p := ⟨w.heap.size, 1, none⟩) (Nat.le_refl _) (.int .i64 (i : Int))
          exact bodyPost_ret (v := .agg #[.int .i64 2, .int .i64 (i : Int)]) (by simp [results, Tryz.results53, go_sem, g0, g1]) rfl ⟨by rw [HAN.out], hK⟩
        · have q0b : (q == 0) = false := by simpa using q0
          by_cases q1 : q = 1
          · subst q1
            cases hin : Tab.inP D (x.a, x.b) with
            | true =>
              have HCZ := Lib.hid (show Tab.chkSite t x = 0 by
                unfold Tab.chkSite
                rw [HQ.out, if_neg (by decide), if_pos rfl, if_pos (HD.out _ (Tab.inP_iff.1 hin))])
              have hlk := (HMP.out.kept HK4.out).look (t := 136) (e := 142) Tryz.underlying136 (zero_passed _) HFI.out
              rw [hin] at hlk
              clear hin
              go_wp2_with fail
              go_roundw
              case rel => exact ⟨i + 1, n, D, by omega, by omega, rfl, chk_more HX.out HZ.out HCZ.out, (HK.out.trans HK4.out).alloc _, B4.out.alloc _, (HMP.out.kept HK4.out).kept ((Kept.refl _).alloc _), HD.out, Nat.lt_succ_self _⟩
              case measure => simp [intOf]; omega
            | false =>
              have HIN := Lib.hid hin
              have hlk := (HMP.out.kept HK4.out).look (t := 136) (e := 142) Tryz.underlying136 (zero_passed _) HFI.out
              rw [hin] at hlk
              have HK5 := Lib.hid (HK4.out.alloc (.cells #[] 142))
              have b85 := B84.out.alloc (.cells #[] 142)
              have B85 := Lib.hid b85
              have y0 := b85.cell 0
              have y1 := b85.cell 1
              simp only [List.getElem?_toArray, List.getElem?_cons_zero, List.getElem?_cons_succ] at y0 y1
              have HCA := Lib.hid (HIC2.out (w4.alloc (.cells #[] 142)) (HK.out.trans HK5.out))
              clear hin b85
              cases hca : Tab.isCast t x.a x.b with
              | false =>
                have HAN := Lib.hid (show ans = (7, (i : Int)) by
                  have hc : Tab.chkSite t x = 7 := by unfold Tab.chkSite; rw [HQ.out, if_neg (by decide), if_pos rfl, hca]; rfl
                  rw [← HA2.out, chk_at HX.out HZ.out (by rw [hc]; decide), hc])
                rw [hca] at HCA
                clear hca
                go_wp2_with fail
                refine HCA.out.mono ?_
                rintro e w6 ⟨rfl, k6⟩
                have HK6 := Lib.hid (HK5.out.trans k6)
                have b46 := HB.out.kept HK6.out
                have u0 := b46.cell 0
                have u1 := b46.cell 1
                have v0 := b46.frozen 0
                have v1 := b46.frozen 1
                simp only [List.getElem?_toArray, List.getElem?_cons_zero, List.getElem?_cons_succ] at u0 u1
                clear g0 g1 f0 f1 y0 y1 r0 r1 k6 b46
                go_wp2_with fail
                have hK := ((HK.out.trans HK6.out).setCell (p := ⟨w.heap.size, 0, none⟩) (Nat.le_refl _) (.int .i64 7)).setCell (p := ⟨w.heap.size, 1, none⟩) (Nat.le_refl _) (.int .i64 (i : Int))
                exact bodyPost_ret (v := .agg #[.int .i64 7, .int .i64 (i : Int)]) (by simp [results, Tryz.results53, go_sem, u0, u1]) rfl ⟨by rw [HAN.out], hK⟩
              | true =>
                have HCZ := Lib.hid (show Tab.chkSite t x = 0 by unfold Tab.chkSite; rw [HQ.out, if_neg (by decide), if_pos rfl, hca]; rfl)
                have HCT := Lib.hid hca
                rw [hca] at HCA
                clear hca
                go_wp2_with fail
                refine HCA.out.mono ?_
                rintro e w6 ⟨rfl, k6⟩
                have HK6 := Lib.hid (HK5.out.trans k6)
                have b86 := B85.out.kept k6
                have u0 := b86.cell 0
                have u1 := b86.cell 1
                simp only [List.getElem?_toArray, List.getElem?_cons_zero, List.getElem?_cons_succ] at u0 u1
                obtain ⟨w7, hup, hm7, hg7⟩ := (HMP.out.kept HK6.out).store (t := 136) (e := 142) Tryz.underlying136 (by unfold maxLen; omega) HFI.out HIN.out (.agg #[])
                have HM7 := Lib.hid (hm7.congr (g' := fun _ => .agg #[]) fun p _ => by simp)
                have HB7 := Lib.hid ((HB.out.kept HK6.out).grownBy hg7 (by intro e; injection e with e; omega))
                have HK7 := Lib.hid ((HK.out.trans HK6.out).grown hg7 fun k e => by injection e with e; omega)
                have HD7 := Lib.hid (show ∀ p ∈ D ++ [(x.a, x.b)], Tab.isCast t p.1 p.2 = true by
                  intro p hp
                  rcases List.mem_append.1 hp with hp | hp
                  · exact HD.out p hp
                  · obtain rfl := List.mem_singleton.1 hp
                    exact HCT.out)
                clear g0 g1 f0 f1 y0 y1 r0 r1 k6 b86 hm7 hg7
                go_wp2_with fail
                go_roundw
                case rel => exact ⟨i + 1, n + 1, D ++ [(x.a, x.b)], by omega, by omega, rfl, chk_more HX.out HZ.out HCZ.out, HK7.out, HB7.out, HM7.out, HD7.out, Nat.lt_succ_self _⟩
                case measure => simp [intOf]; omega
          · have q1b : (q == 1) = false := by simpa using q1
            by_cases hd : x.a = Tab.dynB ∧ x.b = Tab.dynB
            · have HCZ := Lib.hid (show Tab.chkSite t x = 0 by unfold Tab.chkSite; rw [HQ.out, if_neg q0, if_neg q1, if_pos hd])
              have qa := q63_yes hd.1
              have qb := q63_yes hd.2
              clear hd
              go_wp2_with fail
              go_roundw
              case rel => exact ⟨i + 1, n, D, by omega, by omega, rfl, chk_more HX.out HZ.out HCZ.out, HK.out.trans HK4.out, B4.out, HMP.out.kept HK4.out, HD.out, Nat.lt_succ_self _⟩
              case measure => simp [intOf]; omega
            · have HAN := Lib.hid (show ans = (2, (i : Int)) by
                have hc : Tab.chkSite t x = 2 := by unfold Tab.chkSite; rw [HQ.out, if_neg q0, if_neg q1, if_neg hd]
                rw [← HA2.out, chk_at HX.out HZ.out (by rw [hc]; decide), hc])
              by_cases ha : x.a = Tab.dynB
              · have qa := q63_yes ha
                have qb := q63_no (fun e => hd ⟨ha, e⟩)
                clear ha hd
                go_wp2_with fail
                have hK := ((HK.out.trans HK4.out).setCell (p := ⟨w.heap.size, 0, none⟩) (Nat.le_refl _) (.int .i64 2)).setCell (p := ⟨w.heap.size, 1, none⟩) (Nat.le_refl _) (.int .i64 (i : Int))
                exact bodyPost_ret (v := .agg #[.int .i64 2, .int .i64 (i : Int)]) (by simp [results, Tryz.results53, go_sem, g0, g1]) rfl ⟨by rw [HAN.out], hK⟩
              · have qa := q63_no ha
                clear ha hd
                by_cases hb : x.b = Tab.dynB
                · have qb := q63_yes hb
                  clear hb
                  go_wp2_with fail
                  have hK := ((HK.out.trans HK4.out).setCell (p := ⟨w.heap.size, 0, none⟩) (Nat.le_refl _) (.int .i64 2)).setCell (p := ⟨w.heap.size, 1, none⟩) (Nat.le_refl _) (.int .i64 (i : Int))
                  exact bodyPost_ret (v := .agg #[.int .i64 2, .int .i64 (i : Int)]) (by simp [results, Tryz.results53, go_sem, g0, g1]) rfl ⟨by rw [HAN.out], hK⟩
                · have qb := q63_no hb
                  clear hb
                  go_wp2_with fail
                  have hK := ((HK.out.trans HK4.out).setCell (p := ⟨w.heap.size, 0, none⟩) (Nat.le_refl _) (.int .i64 2)).setCell (p := ⟨w.heap.size, 1, none⟩) (Nat.le_refl _) (.int .i64 (i : Int))
                  exact bodyPost_ret (v := .agg #[.int .i64 2, .int .i64 (i : Int)]) (by simp [results, Tryz.results53, go_sem, g0, g1]) rfl ⟨by rw [HAN.out], hK⟩
      · have hltI : ¬ (i : Int) < (l.length : Int) := by omega
        obtain rfl : i = l.length := by omega
        have HAN := Lib.hid (show ans = (0, 0) by rw [← HA2.out, chk_all HZ.out])
        have g0 := HB.out.cell 0
        have g1 := HB.out.cell 1
        have f0 := HB.out.frozen 0
        have f1 := HB.out.frozen 1
        simp only [List.getElem?_toArray, List.getElem?_cons_zero, List.getElem?_cons_succ] at g0 g1
        have hK := (HK.out.setCell (p := ⟨w.heap.size, 0, none⟩) (Nat.le_refl _) (.int .i64 0)).setCell (p := ⟨w.heap.size, 1, none⟩) (Nat.le_refl _) (.int .i64 0)
        go_wp2_with fail
        exact bodyPost_ret (v := .agg #[.int .i64 0, .int .i64 0]) (by simp [results, Tryz.results53, go_sem, g0, g1]) rfl ⟨by rw [HAN.out], hK⟩

end Go.Proofs.YthooiofaicdhgaaGreatDoor
