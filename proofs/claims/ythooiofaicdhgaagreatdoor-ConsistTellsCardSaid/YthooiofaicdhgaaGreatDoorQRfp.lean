/- The document's own answers about tables (chaperonref05): typed. -/
import Derived.Test.YthooiofaicdhgaaGreatDoorQRfs
set_option linter.unusedSimpArgs false
set_option linter.unusedVariables false
set_option maxRecDepth 100000
namespace Go.Proofs.YthooiofaicdhgaaGreatDoor
open Go.ChangeShapes Go.WideShapes Go.ChangeAt Go.RowKit
theorem cls_kind {s : ByteArray} (h : Wrd.cls s = true) : Wrd.kind s = 3 := by
 have hb : Wrd.base s = false := by
  cases e : Wrd.base s with
  | false => rfl
  | true =>
   unfold Wrd.base Wrd.has Wrd.bs at e
   simp at e
   rcases e with e | e | e | e | e <;> subst e <;> exact absurd h (by decide +kernel)
 have hd : ¬ s = ⟨#[63]⟩ := by
  intro e
  subst e
  exact absurd h (by decide +kernel)
 unfold Wrd.kind
 rw [hb, if_neg (by simp), if_neg hd, if_pos h]
theorem chkType_eq (t : List Tab.C) (s : ByteArray) : Tab.chkType t s = if Wrd.typ s then (if Wrd.cls s then (if (Tab.ix Tab.C.name t s).isSome then 0 else 6) else 0) else 5 := by
 unfold Tab.chkType Wrd.typ
 cases hc : Wrd.cls s with
 | true =>
  rw [cls_kind hc]
  simp
 | false =>
  by_cases h0 : Wrd.kind s = 0
  ·rw [if_pos h0, h0]; simp
  ·have h3 : ¬ Wrd.kind s = 3 := by
    intro e
    unfold Wrd.kind at e
    split at e
    ·cases e
    ·split at e
     ·cases e
     ·rw [hc] at e; simp at e
   rw [if_neg h0, if_neg h3, if_pos (by simpa using h0), if_neg (by simp)]
set_option maxHeartbeats 4000000 in
theorem rtyped_c (t : List Tab.C) (v : Value) (s : ByteArray) (w : World) (h : TabAt w v t) (hs : s.size ≤ 9223372036854775807) :
  Calls Tryz.prog 215 #[v, .string s] w fun e w' => e = .returned (.int .i64 (Tab.chkType t s)) ∧ Kept w w' := by
 have HF := Lib.hid (rfind_c t v s w h)
 unfold FindPost at HF
 have HT := Lib.hid (typeR_c s w hs)
 have HC := Lib.hid (fun W => classR_c s W hs)
 have HE := Lib.hid (chkType_eq t s)
 generalize Tab.chkType t s = ans at HE ⊢
 generalize (Tab.ix Tab.C.name t s).isSome = y at HF HE
 generalize Tab.num (Tab.ix Tab.C.name t s) = n at HF
 generalize Wrd.typ s = ty at HT HE
 generalize Wrd.cls s = cl at HC HE
 obtain ⟨a, c, rfl, _⟩ := h
 cases ty with
 | false =>
  obtain rfl : ans = 5 := HE.out
  go_enter Tryz.func215, Tryz.ntmps215
  go_wp2_with fail
  refine HF.out.mono ?_
  rintro e w1 ⟨rfl, hw1⟩
  subst hw1
  go_wp2_with fail
  refine HT.out.mono ?_
  rintro e w2 ⟨rfl, k2⟩
  go_wp2_with fail
  go_ret
  exact ⟨rfl, k2⟩
 | true =>
  cases cl with
  | false =>
   obtain rfl : ans = 0 := HE.out
   go_enter Tryz.func215, Tryz.ntmps215
   go_wp2_with fail
   refine HF.out.mono ?_
   rintro e w1 ⟨rfl, hw1⟩
   subst hw1
   go_wp2_with fail
   refine HT.out.mono ?_
   rintro e w2 ⟨rfl, k2⟩
   go_wp2_with fail
   refine (HC.out _).mono ?_
   rintro e w3 ⟨rfl, rfl⟩
   go_wp2_with fail
   go_ret
   exact ⟨rfl, k2⟩
  | true =>
   cases y with
   | false =>
    obtain rfl : ans = 6 := HE.out
    go_enter Tryz.func215, Tryz.ntmps215
    go_wp2_with fail
    refine HF.out.mono ?_
    rintro e w1 ⟨rfl, hw1⟩
    subst hw1
    go_wp2_with fail
    refine HT.out.mono ?_
    rintro e w2 ⟨rfl, k2⟩
    go_wp2_with fail
    refine (HC.out _).mono ?_
    rintro e w3 ⟨rfl, rfl⟩
    go_wp2_with fail
    go_ret
    exact ⟨rfl, k2⟩
   | true =>
    obtain rfl : ans = 0 := HE.out
    go_enter Tryz.func215, Tryz.ntmps215
    go_wp2_with fail
    refine HF.out.mono ?_
    rintro e w1 ⟨rfl, hw1⟩
    subst hw1
    go_wp2_with fail
    refine HT.out.mono ?_
    rintro e w2 ⟨rfl, k2⟩
    go_wp2_with fail
    refine (HC.out _).mono ?_
    rintro e w3 ⟨rfl, rfl⟩
    go_wp2_with fail
    go_ret
    exact ⟨rfl, k2⟩
end Go.Proofs.YthooiofaicdhgaaGreatDoor
