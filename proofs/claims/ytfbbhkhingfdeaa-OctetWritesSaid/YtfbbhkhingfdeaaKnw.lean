/- The contract of OctetKnown: the chapter's examples. -/
import Derived.Test.YtfbbhkhingfdeaaHlp
set_option linter.unusedSimpArgs false
set_option linter.unusedVariables false
namespace Go.Proofs.Ytfbbhkhingfdeaa
open Go.ChangeShapes Go.WideShapes Go.ChangeAt Go.RowKit

abbrev sA : ByteArray := ⟨#[128, 0]⟩
abbrev sB : ByteArray := ⟨#[2, 97]⟩
abbrev sC : ByteArray := ⟨#[2, 97, 98]⟩
abbrev sD : ByteArray := ⟨#[]⟩

/-- The four readers of the examples. -/
def Kn (w0 w : World) (A B C D : Nat) (ta tb tc td : Oct.Rs) : Prop :=
  Kept w0 w ∧ Rd w A sA ta ∧ Rd w B sB tb ∧ Rd w C sC tc ∧ Rd w D sD td ∧ w0.heap.size ≤ A ∧ A < B ∧ B < C ∧ C < D

section
variable {w0 w w' : World} {A B C D : Nat} {ta tb tc td t' : Oct.Rs}
theorem Kn.kept (h : Kn w0 w A B C D ta tb tc td) (k : Kept w w') : Kn w0 w' A B C D ta tb tc td := by
  obtain ⟨h0, h1, h2, h3, h4, h5⟩ := h
  exact ⟨h0.trans k, h1.kept k, h2.kept k, h3.kept k, h4.kept k, h5⟩
theorem Kn.a (h : Kn w0 w A B C D ta tb tc td) (ho : Only (· = A) w w') (hr : Rd w' A sA t') : Kn w0 w' A B C D t' tb tc td := by
  obtain ⟨h0, h1, h2, h3, h4, h5, h6, h7, h8⟩ := h
  exact ⟨h0.only ho rfl (fun k e => by omega), hr, h2.only ho (by omega), h3.only ho (by omega), h4.only ho (by omega), h5, h6, h7, h8⟩
theorem Kn.b (h : Kn w0 w A B C D ta tb tc td) (ho : Only (· = B) w w') (hr : Rd w' B sB t') : Kn w0 w' A B C D ta t' tc td := by
  obtain ⟨h0, h1, h2, h3, h4, h5, h6, h7, h8⟩ := h
  exact ⟨h0.only ho rfl (fun k e => by omega), h1.only ho (by omega), hr, h3.only ho (by omega), h4.only ho (by omega), h5, h6, h7, h8⟩
theorem Kn.c (h : Kn w0 w A B C D ta tb tc td) (ho : Only (· = C) w w') (hr : Rd w' C sC t') : Kn w0 w' A B C D ta tb t' td := by
  obtain ⟨h0, h1, h2, h3, h4, h5, h6, h7, h8⟩ := h
  exact ⟨h0.only ho rfl (fun k e => by omega), h1.only ho (by omega), h2.only ho (by omega), hr, h4.only ho (by omega), h5, h6, h7, h8⟩
theorem Kn.r {R : Nat} (h : Kn w0 w A B C D ta tb tc td) (ho : Only (· = R) w w') (hR : D < R) : Kn w0 w' A B C D ta tb tc td := by
  obtain ⟨h0, h1, h2, h3, h4, h5, h6, h7, h8⟩ := h
  exact ⟨h0.only ho rfl (fun k e => by omega), h1.only ho (by omega), h2.only ho (by omega), h3.only ho (by omega), h4.only ho (by omega), h5, h6, h7, h8⟩
end

theorem pk1 : Oct.put 9 ([], 0) (Oct.natO (-1)) [] = ([], 3) := by kernel_rfl
theorem pk2 : Oct.put 9 ([], 3) (Oct.natO 1) [] = ([], 3) := by unfold Oct.put; rw [if_pos (by decide)]

abbrev oA : Obj := .cells #[.int .u8 128, .int .u8 0] 5
abbrev oB : Obj := .cells #[.int .u8 2, .int .u8 97] 5
abbrev oC : Obj := .cells #[.int .u8 2, .int .u8 97, .int .u8 98] 5
theorem strA (w : World) : Str (w.alloc oA) (.slice (some ⟨w.heap.size, 0, none⟩) 2 2) [128, 0] := (Row.lit w [128, 0] (by decide)).str
theorem strB (w : World) : Str (w.alloc oB) (.slice (some ⟨w.heap.size, 0, none⟩) 2 2) [2, 97] := (Row.lit w [2, 97] (by decide)).str
theorem strC (w : World) : Str (w.alloc oC) (.slice (some ⟨w.heap.size, 0, none⟩) 3 3) [2, 97, 98] := (Row.lit w [2, 97, 98] (by decide)).str

set_option maxRecDepth 100000 in
set_option maxHeartbeats 1600000 in
theorem known_c (w : World) : Calls Try.prog 5 #[] w fun e w' => e = .returned (.bool true) ∧ Kept w w' := by
  go_enter Try.func5, Try.ntmps5
  go_wp2_with fail
  refine (newW_c 9 w (by decide) (by decide)).mono ?_
  rintro e w1 ⟨rfl, k1, hw1⟩
  have HW := Lib.hid hw1
  have HK := Lib.hid k1
  clear k1 hw1
  go_wp2_with fail
  refine (numW_c _ _ _ _ (-1) _ (by decide) HW.out).mono ?_
  rw [pk1]
  rintro e w2 ⟨rfl, O2, hw2, hg2, ho2⟩
  have HK2 := Lib.hid (HK.out.only ho2 rfl (fun k e => by rw [e]; exact Nat.le_refl _))
  have HG2 := Lib.hid (fun k (h : O2 k) => show w.heap.size ≤ k from (hg2 k h).elim (fun e => by rw [e]; exact Nat.le_refl _) (fun h => Nat.le_trans HK.out.size h))
  have HW2 := Lib.hid hw2
  clear hw2 hg2 ho2 HW HK
  go_wp2_with fail
  refine (numW_c _ _ _ _ 1 _ (by decide) HW2.out).mono ?_
  rw [pk2]
  rintro e w3 ⟨rfl, O3, hw3, hg3, ho3⟩
  have HK3 := Lib.hid (HK2.out.only ho3 rfl HG2.out)
  have HW3 := Lib.hid hw3
  clear hw3 hg3 ho3 HW2 HK2 HG2
  go_wp2_with fail
  refine (bytesW_c _ _ _ _ _ HW3.out).mono ?_
  rintro e w4 (⟨h, _⟩ | ⟨_, rfl, k4⟩)
  · cases h
  have HK4 := Lib.hid (HK3.out.trans k4)
  clear k4 HW3 HK3
  go_wp2_with fail
  refine (newR_c _ sA _ ((strA w4) _ (Kept.refl _))).mono ?_
  rintro e w5 ⟨rfl, k5, hb5⟩
  have HA := Lib.hid (rd_new (s := sA) (by decide) hb5)
  have HK5 := Lib.hid (((Kept.refl w4).alloc _).trans k5)
  clear k5 hb5
  go_wp2_with fail
  refine (newR_c _ sB _ ((strB w5) _ (Kept.refl _))).mono ?_
  rintro e w6 ⟨rfl, k6, hb6⟩
  have HB := Lib.hid (rd_new (s := sB) (by decide) hb6)
  have HK6 := Lib.hid (((Kept.refl w5).alloc _).trans k6)
  clear k6 hb6
  go_wp2_with fail
  refine (newR_c _ sC _ ((strC w6) _ (Kept.refl _))).mono ?_
  rintro e w7 ⟨rfl, k7, hb7⟩
  have HC := Lib.hid (rd_new (s := sC) (by decide) hb7)
  have HK7 := Lib.hid (((Kept.refl w6).alloc _).trans k7)
  clear k7 hb7
  go_wp2_with fail
  refine (newR_c _ sD _ (str_nil _)).mono ?_
  rintro e w8 ⟨rfl, k8, hb8⟩
  have HD := Lib.hid (rd_new (s := sD) (by decide) hb8)
  have HK8 := Lib.hid k8
  clear k8 hb8
  have T := Lib.hid (show Kn w w8 (w4.alloc oA).heap.size (w5.alloc oB).heap.size (w6.alloc oC).heap.size w7.heap.size (0, 0, 0) (0, 0, 0) (0, 0, 0) (0, 0, 0) from by
    have a1 := HK4.out.size
    have a2 := HA.out.lt
    have a3 := HB.out.lt
    have a4 := HC.out.lt
    refine ⟨HK4.out.trans (HK5.out.trans (HK6.out.trans (HK7.out.trans HK8.out))), HA.out.kept (HK6.out.trans (HK7.out.trans HK8.out)), HB.out.kept (HK7.out.trans HK8.out), HC.out.kept HK8.out, HD.out, ?_, ?_, ?_, ?_⟩
    · simp; omega
    · simp at a2 ⊢; omega
    · simp at a3 ⊢; omega
    · simp at a4 ⊢; omega)
  clear HA HB HC HD HK4 HK5 HK6 HK7 HK8
  rw [World.size_alloc, World.size_alloc, World.size_alloc] at T
  generalize w4.heap.size + 1 = A at *
  generalize w5.heap.size + 1 = B at *
  generalize w6.heap.size + 1 = C at *
  generalize w7.heap.size = D at *
  go_wp2_with fail
  refine (numR_c _ _ _ _ T.out.2.1).mono ?_
  rw [show Oct.numV sA.data.toList (0, 0, 0) = 0 by kernel_rfl, show Oct.numS sA.data.toList (0, 0, 0) = (0, 5, 0) by kernel_rfl]
  rintro e w' ⟨rfl, ho, hr⟩
  have T := Lib.hid (T.out.a ho hr)
  clear ho hr
  go_wp2_with fail
  refine (wordR_c _ _ _ 5 _ T.out.2.2.1).mono ?_
  rw [show Oct.wordV sB.data.toList 5 (0, 0, 0) = [] by kernel_rfl, show Oct.wordS sB.data.toList 5 (0, 0, 0) = (1, 13, 0) by kernel_rfl]
  rintro e w' ⟨rfl, ho, hr⟩
  have T := Lib.hid (T.out.b ho hr)
  clear ho hr
  go_wp2_with fail
  refine (wordR_c _ _ _ 1 _ T.out.2.2.2.1).mono ?_
  rw [show Oct.wordV sC.data.toList 1 (0, 0, 0) = [] by kernel_rfl, show Oct.wordS sC.data.toList 1 (0, 0, 0) = (1, 4, 0) by kernel_rfl]
  rintro e w' ⟨rfl, ho, hr⟩
  have T := Lib.hid (T.out.c ho hr)
  clear ho hr
  go_wp2_with fail
  refine (restR_c _ _ _ _ T.out.2.2.2.2.1).mono ?_
  rw [show ((Oct.restV sD.data.toList (0, 0, 0) : Nat) : Int) = 0 by kernel_rfl]
  rintro e w' ⟨rfl, hk⟩
  have T := Lib.hid (T.out.kept hk)
  clear hk
  go_wp2_with fail
  refine (newR_c _ sixS _ ((six_str _) _ (Kept.refl _))).mono ?_
  rintro e w9 ⟨rfl, k9, hb9⟩
  have HE := Lib.hid (show D < (w'.alloc sixO).heap.size from by have := T.out.2.2.2.2.1.lt; simp; omega)
  have T := Lib.hid ((T.out.kept ((Kept.refl _).alloc sixO)).kept k9)
  have R := Lib.hid (rd_new (s := sixS) (by decide) hb9)
  clear k9 hb9
  rw [World.size_alloc] at R HE ⊢
  generalize w'.heap.size + 1 = E at *
  go_wp2_with fail
  refine (numR_c _ _ _ _ R.out).mono ?_
  rw [show Oct.numV sixS.data.toList (0, 0, 0) = 300 by kernel_rfl, show Oct.numS sixS.data.toList (0, 0, 0) = (2, 0, 0) by kernel_rfl]
  rintro e w' ⟨rfl, ho, hr⟩
  have T := Lib.hid (T.out.r ho HE.out)
  have R := Lib.hid hr
  clear ho hr
  go_wp2_with fail
  refine (wholeR_c _ _ _ _ R.out).mono ?_
  rw [show Oct.zag (Oct.numV sixS.data.toList (2, 0, 0)) = -1 by kernel_rfl, show Oct.numS sixS.data.toList (2, 0, 0) = (3, 0, 0) by kernel_rfl]
  rintro e w' ⟨rfl, ho, hr⟩
  have T := Lib.hid (T.out.r ho HE.out)
  have R := Lib.hid hr
  clear ho hr
  go_wp2_with fail
  refine (wordR_c _ _ _ 2 _ R.out).mono ?_
  rw [show Oct.wordV sixS.data.toList 2 (3, 0, 0) = [97, 98] by kernel_rfl, show Oct.wordS sixS.data.toList 2 (3, 0, 0) = (6, 0, 0) by kernel_rfl]
  rintro e w' ⟨rfl, ho, hr⟩
  have T := Lib.hid (T.out.r ho HE.out)
  have R := Lib.hid hr
  clear ho hr
  go_wp2_with fail
  refine (numR_c _ _ _ _ R.out).mono ?_
  rw [show Oct.numV sixS.data.toList (6, 0, 0) = 0 by kernel_rfl, show Oct.numS sixS.data.toList (6, 0, 0) = (6, 13, 6) by kernel_rfl]
  rintro e w' ⟨rfl, ho, hr⟩
  have T := Lib.hid (T.out.r ho HE.out)
  have R := Lib.hid hr
  clear ho hr
  go_wp2_with fail
  refine (ends_t _ _ _ 13 6 _ R.out (by kernel_rfl) (by kernel_rfl)).mono ?_
  rintro e w' ⟨rfl, hk⟩
  have T := Lib.hid (T.out.kept hk)
  clear hk
  go_wp2_with fail
  refine (awake_c _).mono ?_
  rintro e w' ⟨rfl, hk⟩
  have T := Lib.hid (T.out.kept hk)
  clear hk
  go_wp2_with fail
  refine (ends_t _ _ _ 5 0 _ T.out.2.1 (by kernel_rfl) (by kernel_rfl)).mono ?_
  rintro e w' ⟨rfl, hk⟩
  have T := Lib.hid (T.out.kept hk)
  clear hk
  go_wp2_with fail
  refine (ends_t _ _ _ 13 0 _ T.out.2.2.1 (by kernel_rfl) (by kernel_rfl)).mono ?_
  rintro e w' ⟨rfl, hk⟩
  have T := Lib.hid (T.out.kept hk)
  clear hk
  go_wp2_with fail
  refine (ends_t _ _ _ 4 0 _ T.out.2.2.2.1 (by kernel_rfl) (by kernel_rfl)).mono ?_
  rintro e w' ⟨rfl, hk⟩
  have T := Lib.hid (T.out.kept hk)
  clear hk
  go_wp2_with fail
  refine (ends_t _ _ _ 0 0 _ T.out.2.2.2.2.1 (by kernel_rfl) (by kernel_rfl)).mono ?_
  rintro e w' ⟨rfl, hk⟩
  have T := Lib.hid (T.out.kept hk)
  clear hk
  go_wp2_with fail
  go_ret
  exact ⟨rfl, T.out.1⟩
end Go.Proofs.Ytfbbhkhingfdeaa
