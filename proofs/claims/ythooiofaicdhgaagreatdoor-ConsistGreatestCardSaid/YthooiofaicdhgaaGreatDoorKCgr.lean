/- What ConsistGreatest's helpers tell: within. -/
import Derived.Test.YthooiofaicdhgaaGreatDoorKCkn
import Derived.Test.YthooiofaicdhgaaGreatDoorKAri
set_option linter.unusedSimpArgs false
set_option linter.unusedVariables false
set_option maxRecDepth 100000
namespace Go.Proofs.YthooiofaicdhgaaGreatDoor.Tab
/-- A pair of a list, by names. -/
def pairIn (t : List C) (L : List (Nat × Nat)) (s u : ByteArray) : Bool := L.any fun p => decide ((nth t p.1).name = s) && decide ((nth t p.2).name = u)
def within (t : List C) (L : List (Nat × Nat)) (s u : ByteArray) : Bool := decide (s = ⟨#[63]⟩) || decide (u = ⟨#[63]⟩) || sub t s u || pairIn t L s u
theorem pairIn_next {t : List C} {L : List (Nat × Nat)} {s u : ByteArray} {j : Nat} {p : Nat × Nat} (h : pairIn t (L.take j) s u = false) (hp : L[j]? = some p) (hn : (decide ((nth t p.1).name = s) && decide ((nth t p.2).name = u)) = false) : pairIn t (L.take (j + 1)) s u = false := by
 unfold pairIn at h ⊢
 rw [List.take_add_one, hp, List.any_append, h]
 simp only [Option.toList, List.any_cons, List.any_nil, hn]
 rfl
theorem pairIn_hit {t : List C} {L : List (Nat × Nat)} {s u : ByteArray} {j : Nat} {p : Nat × Nat} (hp : L[j]? = some p) (h1 : (nth t p.1).name = s) (h2 : (nth t p.2).name = u) : pairIn t L s u = true := by
 unfold pairIn
 refine List.any_eq_true.2 ⟨p, List.mem_of_getElem? hp, ?_⟩
 rw [decide_eq_true h1, decide_eq_true h2]; rfl
end Go.Proofs.YthooiofaicdhgaaGreatDoor.Tab
namespace Go.Proofs.YthooiofaicdhgaaGreatDoor
open Go.ChangeShapes Go.WideShapes Go.ChangeAt Go.RowKit
def PairAt (w : World) (b o : Nat) (p : Nat × Nat) : Prop := w.cell? ⟨b, o, none⟩ = some (.int .i64 p.1) ∧ w.cell? ⟨b, o + 1, none⟩ = some (.int .i64 p.2)
abbrev PairsAt (w : World) (v : Value) (L : List (Nat × Nat)) : Prop := Row 2 PairAt w v L
theorem pairs_kept {w w' : World} {v : Value} {L : List (Nat × Nat)} (h : PairsAt w v L) (k : Kept w w') : PairsAt w' v L := h.mono fun _ _ _ r => ⟨k.cell r.1, k.cell r.2⟩
def Inside (t : List Tab.C) (L : List (Nat × Nat)) : Prop := ∀ p ∈ L, p.1 < t.length ∧ p.2 < t.length
set_option maxHeartbeats 4000000 in
theorem within_c (t : List Tab.C) (a : Option Addr) (cp : Nat) (L : List (Nat × Nat)) (la : Option Addr) (lc : Nat) (s u : ByteArray) (w : World) (hTb : Tb w) (h : TabAt w (.slice a t.length cp) t) (hS : Small t) (hl : PairsAt w (.slice la L.length lc) L) (hL : Inside t L) :
  Calls Tryz.prog 104 #[.slice a t.length cp, .slice la L.length lc, .string s, .string u] w fun e w' => e = .returned (.bool (Tab.within t L s u)) ∧ Kept w w' := by
 have HSB := Lib.hid (sub_c t a cp s u w hTb h hS)
 have HT := Lib.hid h
 have HP := Lib.hid hl
 have hS' := hS.len
 obtain ⟨hb, hhb⟩ : ∃ hb, hb = Tab.within t L s u := ⟨_, rfl⟩
 rw [← hhb]
 have HHB := Lib.hid hhb
 have HIN := Lib.hid hL
 clear hhb hTb h hS hl hL
 by_cases h1 : s = ⟨#[63]⟩
 ·have b1 : (s.toList == [63]) = true := lit_yes h1
  have HQ := Lib.hid (show hb = true by rw [HHB.out]; unfold Tab.within; rw [decide_eq_true h1]; rfl)
  clear h1 HSB HT HP HHB HIN
  go_enter Tryz.func104, Tryz.ntmps104
  go_wp2_with fail
  go_ret
  exact ⟨by rw [HQ.out]; rfl, Kept.refl w⟩
 ·have b1 : (s.toList == [63]) = false := lit_no h1
  by_cases h2 : u = ⟨#[63]⟩
  ·have b2 : (u.toList == [63]) = true := lit_yes h2
   have HQ := Lib.hid (show hb = true by rw [HHB.out]; unfold Tab.within; rw [decide_eq_true h2, Bool.or_true]; rfl)
   clear h1 h2 HSB HT HP HHB HIN
   go_enter Tryz.func104, Tryz.ntmps104
   go_wp2_with fail
   go_ret
   exact ⟨by rw [HQ.out]; rfl, Kept.refl w⟩
  ·have b2 : (u.toList == [63]) = false := lit_no h2
   have HQ0 := Lib.hid (show hb = (Tab.sub t s u || Tab.pairIn t L s u) by rw [HHB.out]; unfold Tab.within; rw [decide_eq_false h1, decide_eq_false h2]; rfl)
   clear h1 h2 HHB
   cases x1 : Tab.sub t s u with
   | true =>
    rw [x1] at HSB
    have HQ := Lib.hid (show hb = true by rw [HQ0.out, x1]; rfl)
    clear x1 HT HP HIN HQ0
    go_enter Tryz.func104, Tryz.ntmps104
    go_wp2_with fail
    refine HSB.out.mono ?_
    rintro e w1 ⟨rfl, k1⟩
    have HK := Lib.hid k1
    clear k1
    go_wp2_with fail
    go_ret
    exact ⟨by rw [HQ.out]; rfl, HK.out⟩
   | false =>
    rw [x1] at HSB
    have HQ := Lib.hid (show hb = Tab.pairIn t L s u by rw [HQ0.out, x1]; rfl)
    clear x1 HQ0
    go_enter Tryz.func104, Tryz.ntmps104
    go_wp2_with fail
    refine HSB.out.mono ?_
    rintro e w1 ⟨rfl, k1⟩
    have HK := Lib.hid k1
    have HT1 := Lib.hid (tab_kept HT.out k1)
    have HP1 := Lib.hid (pairs_kept HP.out k1)
    have hcap : t.length ≤ cp ∧ L.length ≤ lc ∧ lc ≤ maxLen := by
     obtain ⟨_, c', e, g1, g2, _⟩ := HT.out
     injection e with _ _ e3
     subst e3
     obtain ⟨_, c', e, g3, g4, _⟩ := HP.out
     injection e with _ _ e3
     subst e3
     exact ⟨g1, g3, g4⟩
    unfold maxLen at hcap
    clear k1 HT HP HSB
    go_wp2_with fail
    go_loopw [9] (fun q wr => ∃ j : Nat, j ≤ L.length ∧ q = .int .i64 j ∧ wr = w1 ∧ Tab.pairIn t (L.take j) s u = false) (fun q wr => L.length - (intOf q).toNat)
    case atStart => exact ⟨0, Nat.zero_le _, rfl, rfl, by rfl⟩
    case round =>
     obtain ⟨j, hj, rfl, rfl, hN⟩ := hrel
     have HN := Lib.hid hN
     clear hN
     by_cases hlt : j < L.length
     ·have hltI : (j : Int) < (L.length : Int) := by omega
      have hx : L[j]? = some L[j] := List.getElem?_eq_getElem hlt
      have HX := Lib.hid hx
      obtain ⟨la', lc', e, _, _, hat⟩ := HP1.out
      injection e with e1 _ e3
      subst e1 e3
      obtain ⟨pb, po, rfl, hp⟩ := hat _ _ hx
      obtain ⟨i1, i2⟩ := HIN.out _ (List.mem_of_getElem? hx)
      generalize L[j] = p at hx HX hp i1 i2
      obtain ⟨p1, p2⟩ := p
      dsimp only at i1 i2
      have c0 := hp.1
      have c1 := hp.2
      dsimp only at c0 c1
      obtain ⟨b, o, rfl, q1⟩ := Row.cellsC HT1.out i1
      obtain ⟨b', o', e, q2⟩ := Row.cellsC HT1.out i2
      injection e with e
      injection e with e1 e2
      subst e1 e2
      have d1 := q1.1
      have d2 := q2.1
      have j1 : (p1 : Int) < (t.length : Int) := by omega
      have j2 : (p2 : Int) < (t.length : Int) := by omega
      clear hat hx hp q1 q2
      by_cases n1 : (Tab.nth t p1).name = s
      ·by_cases n2 : (Tab.nth t p2).name = u
       ·have HR := Lib.hid (show hb = true by rw [HQ.out]; exact Tab.pairIn_hit HX.out n1 n2)
        have z1 := beq_yes n1
        have z2 := beq_yes n2
        clear n1 n2 HN HX HQ
        generalize (Tab.nth t p1).name = x1 at *
        generalize (Tab.nth t p2).name = x2 at *
        go_wp2_with fail
        go_ret
        exact ⟨by rw [HR.out]; rfl, HK.out⟩
       ·have HR := Lib.hid (Tab.pairIn_next HN.out HX.out (by rw [decide_eq_false n2, Bool.and_false]))
        have z1 := beq_yes n1
        have z2 := beq_no n2
        clear n1 n2 HN HX
        generalize (Tab.nth t p1).name = x1 at *
        generalize (Tab.nth t p2).name = x2 at *
        go_wp2_with fail
        go_roundw
        case rel => exact ⟨j + 1, by omega, by go_num, by first | trivial | rfl, HR.out⟩
        case measure => simp [intOf]; omega
      ·have HR := Lib.hid (Tab.pairIn_next HN.out HX.out (by rw [decide_eq_false n1, Bool.false_and]))
       have z1 := beq_no n1
       clear n1 HN HX
       generalize (Tab.nth t p1).name = x1 at *
       generalize (Tab.nth t p2).name = x2 at *
       go_wp2_with fail
       go_roundw
       case rel => exact ⟨j + 1, by omega, by go_num, by first | trivial | rfl, HR.out⟩
       case measure => simp [intOf]; omega
     ·have hltI : ¬ (j : Int) < (L.length : Int) := by omega
      obtain rfl : j = L.length := by omega
      have HR := Lib.hid (show hb = false by have := HN.out; rw [List.take_length] at this; rw [HQ.out, this])
      clear HN
      go_wp2_with fail
      go_ret
      exact ⟨by rw [HR.out]; rfl, HK.out⟩
end Go.Proofs.YthooiofaicdhgaaGreatDoor
