/- What is told of types: one, and each way in which an operation takes types. -/
import Derived.Test.YtcaailiijmjdlaaGreatDoorZtp
set_option linter.unusedSimpArgs false
set_option linter.unusedVariables false
set_option maxRecDepth 100000
namespace Go.Proofs.YtcaailiijmjdlaaGreatDoor
open Go.ChangeShapes Go.WideShapes Go.ChangeAt Go.RowKit
attribute [local go_sem] Oper.semAt_some
open Zp (e0 dy R oper both one goes orR bad tI tR tB tS K)

theorem blk3 {W : World} {g : Nat} {t : TypeId} {x y z : Value} (h : Blk W g t #[x, y, z]) : W.cell? ⟨g, 0, none⟩ = some x ∧ W.cell? ⟨g, 1, none⟩ = some y ∧ W.cell? ⟨g, 2, none⟩ = some z ∧ W.frozen? ⟨g, 0, none⟩ = false ∧ W.frozen? ⟨g, 1, none⟩ = false ∧ W.frozen? ⟨g, 2, none⟩ = false :=
  ⟨h.cell 0, h.cell 1, h.cell 2, h.frozen 0, h.frozen 1, h.frozen 2⟩

set_option maxHeartbeats 1000000 in
theorem zone_c (res l t : ByteArray) (T : List ByteArray) (n : Nat) (hn : n = T.length + 1) (hT : T.length ≤ 10) (a c) (g : Nat) (w : World) (h : TxR w (.slice a 1 c) [l]) (hb : Blk w g 9 ((t :: T).map Value.string).toArray) :
    Calls Tryz.prog 139 #[.slice a 1 c, .string res, .slice (some ⟨g, 0, none⟩) n n] w fun e w' => e = .returned (one res t T l).val ∧ Kept w w' := by
  obtain ⟨W0, hW0⟩ : ∃ W, w.alloc (.cells opZ opT) = W := ⟨_, rfl⟩
  have k0 : Kept w W0 := by rw [← hW0]; exact (Kept.refl _).alloc _
  have b0 : Blk W0 w.heap.size opT opZ := by rw [← hW0]; exact Blk.new _ _ _
  obtain ⟨a', c', e, hc1, hc2, hat⟩ := h
  injection e with e1 e2 e3
  subst e1 e3
  obtain ⟨b, o, rfl, h0⟩ := hat 0 l rfl
  unfold TxB at h0
  have x0 := k0.cell h0
  simp only [Nat.zero_mul, Nat.add_zero] at x0
  have x1 := (hb.kept k0).cell 0
  simp at x1
  have f0 := b0.frozen 0
  have f1 := b0.frozen 1
  have f2 := b0.frozen 2
  have y0 := b0.cell 0
  have y1 := b0.cell 1
  have y2 := b0.cell 2
  simp at y0 y1 y2
  have HW0 := Lib.hid hW0
  have HK := Lib.hid k0
  have HB := Lib.hid b0
  have HR := Lib.hid (show TxR W0 (.slice (some ⟨g, 0, none⟩) n n) (t :: T) from by rw [hn]; exact TxR.lit (t :: T) (hb.kept k0) (by simp; omega))
  have d1 := dyB l
  have hc2' : (1 : Int) ≤ c := by simp at hc1; omega
  have hT1 : (0 : Int) < (n : Int) := by omega
  have hnl : n ≤ 9223372036854775807 := by omega
  clear hW0 k0 b0 hb hat h0 hc1 hT hn e2
  by_cases hl : l = dy
  · rw [decide_eq_true hl] at d1
    have HE := Lib.hid (show one res t T l = oper t res (t :: T) by unfold one; rw [if_pos hl])
    clear hl
    go_enter Tryz.func139, Tryz.ntmps139
    go_wp2_with (first | rw [HW0.out])
    refine (zoper_c t res _ _ _ _ W0 HR.out).mono ?_
    rintro e w3 ⟨rfl, k3⟩
    have HB3 := Lib.hid (HB.out.kept k3)
    have HK3 := Lib.hid (HK.out.trans k3)
    obtain ⟨z0, z1, z2, g0, g1, g2⟩ := blk3 HB3.out
    clear k3
    unfold Zp.R.val
    go_wp2_with fail
    rw [HE.out]
    exact op_end (by rfl) rfl rfl rfl HB3.out HK3.out
  · rw [decide_eq_false hl] at d1
    have HE := Lib.hid (show one res t T l = oper l res (t :: T) by unfold one; rw [if_neg hl])
    clear hl
    go_enter Tryz.func139, Tryz.ntmps139
    go_wp2_with (first | rw [HW0.out])
    refine (zoper_c l res _ _ _ _ W0 HR.out).mono ?_
    rintro e w3 ⟨rfl, k3⟩
    have HB3 := Lib.hid (HB.out.kept k3)
    have HK3 := Lib.hid (HK.out.trans k3)
    obtain ⟨z0, z1, z2, g0, g1, g2⟩ := blk3 HB3.out
    clear k3
    unfold Zp.R.val
    go_wp2_with fail
    rw [HE.out]
    exact op_end (by rfl) rfl rfl rfl HB3.out HK3.out

set_option maxHeartbeats 1000000 in
theorem zk_ordered (l r : ByteArray) (a c) (w : World) (h : TxR w (.slice a 2 c) [l, r]) :
    Calls Tryz.prog 81 #[.slice a 2 c] w fun e w' => e = .returned (K.ordered.take l r).val ∧ Kept w w' := by
  obtain ⟨W0, hW0⟩ : ∃ W, w.alloc (.cells opZ opT) = W := ⟨_, rfl⟩
  have k0 : Kept w W0 := by rw [← hW0]; exact (Kept.refl _).alloc _
  have b0 : Blk W0 w.heap.size opT opZ := by rw [← hW0]; exact Blk.new _ _ _
  have HW0 := Lib.hid hW0
  have HK := Lib.hid k0
  have HB := Lib.hid b0
  obtain ⟨W1, hW1⟩ : ∃ W, W0.alloc (.cells ([tI, tR].map Value.string).toArray 9) = W := ⟨_, rfl⟩
  have k1 : Kept W0 W1 := by rw [← hW1]; exact (Kept.refl _).alloc _
  have b1 : Blk W1 W0.heap.size 9 ([tI, tR].map Value.string).toArray := by rw [← hW1]; exact Blk.new _ _ _
  have HC := Lib.hid (zboth_c tB l r [tI, tR] 2 rfl (by decide) _ W0.heap.size W1 a c rfl ((h.kept k0).kept k1) b1)
  have HB1 := Lib.hid (HB.out.kept k1)
  have HK1 := Lib.hid (HK.out.trans k1)
  have HS1 := Lib.hid (show w.heap.size < W0.heap.size from HB.out.lt)
  have HW1 := Lib.hid (show W0.alloc (.cells #[.string tI, .string tR] 9) = W1 from hW1)
  clear h hW0 k0 b0 k1 b1 hW1
  go_enter Tryz.func81, Tryz.ntmps81
  go_wp2_with (first | rw [HW0.out] | rw [HW1.out])
  refine HC.out.mono ?_
  rintro e w3 ⟨rfl, k3⟩
  have HB3 := Lib.hid (HB1.out.only k3 (by have := HS1.out; omega))
  have HK3 := Lib.hid (HK1.out.only k3 rfl (fun k e => by have := HS1.out; omega))
  obtain ⟨z0, z1, z2, g0, g1, g2⟩ := blk3 HB3.out
  clear k3
  unfold Zp.R.val
  go_wp2_with fail
  exact op_end (r := both tB [tI, tR] l r) (by rfl) rfl rfl rfl HB3.out HK3.out

set_option maxHeartbeats 1000000 in
theorem zk_added (l r : ByteArray) (a c) (w : World) (h : TxR w (.slice a 2 c) [l, r]) :
    Calls Tryz.prog 84 #[.slice a 2 c] w fun e w' => e = .returned (K.added.take l r).val ∧ Kept w w' := by
  obtain ⟨W0, hW0⟩ : ∃ W, w.alloc (.cells opZ opT) = W := ⟨_, rfl⟩
  have k0 : Kept w W0 := by rw [← hW0]; exact (Kept.refl _).alloc _
  have b0 : Blk W0 w.heap.size opT opZ := by rw [← hW0]; exact Blk.new _ _ _
  have HW0 := Lib.hid hW0
  have HK := Lib.hid k0
  have HB := Lib.hid b0
  obtain ⟨W1, hW1⟩ : ∃ W, W0.alloc (.cells ([tI, tR, tS].map Value.string).toArray 9) = W := ⟨_, rfl⟩
  have k1 : Kept W0 W1 := by rw [← hW1]; exact (Kept.refl _).alloc _
  have b1 : Blk W1 W0.heap.size 9 ([tI, tR, tS].map Value.string).toArray := by rw [← hW1]; exact Blk.new _ _ _
  have HC := Lib.hid (zboth_c e0 l r [tI, tR, tS] 3 rfl (by decide) _ W0.heap.size W1 a c rfl ((h.kept k0).kept k1) b1)
  have HB1 := Lib.hid (HB.out.kept k1)
  have HK1 := Lib.hid (HK.out.trans k1)
  have HS1 := Lib.hid (show w.heap.size < W0.heap.size from HB.out.lt)
  have HW1 := Lib.hid (show W0.alloc (.cells #[.string tI, .string tR, .string tS] 9) = W1 from hW1)
  clear h hW0 k0 b0 k1 b1 hW1
  go_enter Tryz.func84, Tryz.ntmps84
  go_wp2_with (first | rw [HW0.out] | rw [HW1.out])
  refine HC.out.mono ?_
  rintro e w3 ⟨rfl, k3⟩
  have HB3 := Lib.hid (HB1.out.only k3 (by have := HS1.out; omega))
  have HK3 := Lib.hid (HK1.out.only k3 rfl (fun k e => by have := HS1.out; omega))
  obtain ⟨z0, z1, z2, g0, g1, g2⟩ := blk3 HB3.out
  clear k3
  unfold Zp.R.val
  go_wp2_with fail
  exact op_end (r := both e0 [tI, tR, tS] l r) (by rfl) rfl rfl rfl HB3.out HK3.out

set_option maxHeartbeats 1000000 in
theorem zk_numbers (l r : ByteArray) (a c) (w : World) (h : TxR w (.slice a 2 c) [l, r]) :
    Calls Tryz.prog 86 #[.slice a 2 c] w fun e w' => e = .returned (K.numbers.take l r).val ∧ Kept w w' := by
  obtain ⟨W0, hW0⟩ : ∃ W, w.alloc (.cells opZ opT) = W := ⟨_, rfl⟩
  have k0 : Kept w W0 := by rw [← hW0]; exact (Kept.refl _).alloc _
  have b0 : Blk W0 w.heap.size opT opZ := by rw [← hW0]; exact Blk.new _ _ _
  have HW0 := Lib.hid hW0
  have HK := Lib.hid k0
  have HB := Lib.hid b0
  obtain ⟨W1, hW1⟩ : ∃ W, W0.alloc (.cells ([tI, tR].map Value.string).toArray 9) = W := ⟨_, rfl⟩
  have k1 : Kept W0 W1 := by rw [← hW1]; exact (Kept.refl _).alloc _
  have b1 : Blk W1 W0.heap.size 9 ([tI, tR].map Value.string).toArray := by rw [← hW1]; exact Blk.new _ _ _
  have HC := Lib.hid (zboth_c e0 l r [tI, tR] 2 rfl (by decide) _ W0.heap.size W1 a c rfl ((h.kept k0).kept k1) b1)
  have HB1 := Lib.hid (HB.out.kept k1)
  have HK1 := Lib.hid (HK.out.trans k1)
  have HS1 := Lib.hid (show w.heap.size < W0.heap.size from HB.out.lt)
  have HW1 := Lib.hid (show W0.alloc (.cells #[.string tI, .string tR] 9) = W1 from hW1)
  clear h hW0 k0 b0 k1 b1 hW1
  go_enter Tryz.func86, Tryz.ntmps86
  go_wp2_with (first | rw [HW0.out] | rw [HW1.out])
  refine HC.out.mono ?_
  rintro e w3 ⟨rfl, k3⟩
  have HB3 := Lib.hid (HB1.out.only k3 (by have := HS1.out; omega))
  have HK3 := Lib.hid (HK1.out.only k3 rfl (fun k e => by have := HS1.out; omega))
  obtain ⟨z0, z1, z2, g0, g1, g2⟩ := blk3 HB3.out
  clear k3
  unfold Zp.R.val
  go_wp2_with fail
  exact op_end (r := both e0 [tI, tR] l r) (by rfl) rfl rfl rfl HB3.out HK3.out

set_option maxHeartbeats 1000000 in
theorem zk_wholes (l r : ByteArray) (a c) (w : World) (h : TxR w (.slice a 2 c) [l, r]) :
    Calls Tryz.prog 87 #[.slice a 2 c] w fun e w' => e = .returned (K.wholes.take l r).val ∧ Kept w w' := by
  obtain ⟨W0, hW0⟩ : ∃ W, w.alloc (.cells opZ opT) = W := ⟨_, rfl⟩
  have k0 : Kept w W0 := by rw [← hW0]; exact (Kept.refl _).alloc _
  have b0 : Blk W0 w.heap.size opT opZ := by rw [← hW0]; exact Blk.new _ _ _
  have HW0 := Lib.hid hW0
  have HK := Lib.hid k0
  have HB := Lib.hid b0
  obtain ⟨W1, hW1⟩ : ∃ W, W0.alloc (.cells ([tI].map Value.string).toArray 9) = W := ⟨_, rfl⟩
  have k1 : Kept W0 W1 := by rw [← hW1]; exact (Kept.refl _).alloc _
  have b1 : Blk W1 W0.heap.size 9 ([tI].map Value.string).toArray := by rw [← hW1]; exact Blk.new _ _ _
  have HC := Lib.hid (zboth_c e0 l r [tI] 1 rfl (by decide) _ W0.heap.size W1 a c rfl ((h.kept k0).kept k1) b1)
  have HB1 := Lib.hid (HB.out.kept k1)
  have HK1 := Lib.hid (HK.out.trans k1)
  have HS1 := Lib.hid (show w.heap.size < W0.heap.size from HB.out.lt)
  have HW1 := Lib.hid (show W0.alloc (.cells #[.string tI] 9) = W1 from hW1)
  clear h hW0 k0 b0 k1 b1 hW1
  go_enter Tryz.func87, Tryz.ntmps87
  go_wp2_with (first | rw [HW0.out] | rw [HW1.out])
  refine HC.out.mono ?_
  rintro e w3 ⟨rfl, k3⟩
  have HB3 := Lib.hid (HB1.out.only k3 (by have := HS1.out; omega))
  have HK3 := Lib.hid (HK1.out.only k3 rfl (fun k e => by have := HS1.out; omega))
  obtain ⟨z0, z1, z2, g0, g1, g2⟩ := blk3 HB3.out
  clear k3
  unfold Zp.R.val
  go_wp2_with fail
  exact op_end (r := both e0 [tI] l r) (by rfl) rfl rfl rfl HB3.out HK3.out

set_option maxHeartbeats 1000000 in
theorem zk_signed (l : ByteArray) (a c) (w : World) (h : TxR w (.slice a 1 c) [l]) :
    Calls Tryz.prog 89 #[.slice a 1 c] w fun e w' => e = .returned (K.signed.take l e0).val ∧ Kept w w' := by
  obtain ⟨W0, hW0⟩ : ∃ W, w.alloc (.cells opZ opT) = W := ⟨_, rfl⟩
  have k0 : Kept w W0 := by rw [← hW0]; exact (Kept.refl _).alloc _
  have b0 : Blk W0 w.heap.size opT opZ := by rw [← hW0]; exact Blk.new _ _ _
  have HW0 := Lib.hid hW0
  have HK := Lib.hid k0
  have HB := Lib.hid b0
  obtain ⟨W1, hW1⟩ : ∃ W, W0.alloc (.cells ([tI, tR].map Value.string).toArray 9) = W := ⟨_, rfl⟩
  have k1 : Kept W0 W1 := by rw [← hW1]; exact (Kept.refl _).alloc _
  have b1 : Blk W1 W0.heap.size 9 ([tI, tR].map Value.string).toArray := by rw [← hW1]; exact Blk.new _ _ _
  have HC := Lib.hid (zone_c e0 l tI [tR] 2 rfl (by decide) a c W0.heap.size W1 ((h.kept k0).kept k1) b1)
  have HB1 := Lib.hid (HB.out.kept k1)
  have HK1 := Lib.hid (HK.out.trans k1)
  have HS1 := Lib.hid (show w.heap.size < W0.heap.size from HB.out.lt)
  have HW1 := Lib.hid (show W0.alloc (.cells #[.string tI, .string tR] 9) = W1 from hW1)
  clear h hW0 k0 b0 k1 b1 hW1
  go_enter Tryz.func89, Tryz.ntmps89
  go_wp2_with (first | rw [HW0.out] | rw [HW1.out])
  refine HC.out.mono ?_
  rintro e w3 ⟨rfl, k3⟩
  have HB3 := Lib.hid (HB1.out.kept k3)
  have HK3 := Lib.hid (HK1.out.trans k3)
  obtain ⟨z0, z1, z2, g0, g1, g2⟩ := blk3 HB3.out
  clear k3
  unfold Zp.R.val
  go_wp2_with fail
  exact op_end (r := one e0 tI [tR] l) (by rfl) rfl rfl rfl HB3.out HK3.out

set_option maxHeartbeats 1000000 in
theorem zk_truth (l : ByteArray) (a c) (w : World) (h : TxR w (.slice a 1 c) [l]) :
    Calls Tryz.prog 91 #[.slice a 1 c] w fun e w' => e = .returned (K.truth.take l e0).val ∧ Kept w w' := by
  obtain ⟨W0, hW0⟩ : ∃ W, w.alloc (.cells opZ opT) = W := ⟨_, rfl⟩
  have k0 : Kept w W0 := by rw [← hW0]; exact (Kept.refl _).alloc _
  have b0 : Blk W0 w.heap.size opT opZ := by rw [← hW0]; exact Blk.new _ _ _
  have HW0 := Lib.hid hW0
  have HK := Lib.hid k0
  have HB := Lib.hid b0
  obtain ⟨W1, hW1⟩ : ∃ W, W0.alloc (.cells ([tB].map Value.string).toArray 9) = W := ⟨_, rfl⟩
  have k1 : Kept W0 W1 := by rw [← hW1]; exact (Kept.refl _).alloc _
  have b1 : Blk W1 W0.heap.size 9 ([tB].map Value.string).toArray := by rw [← hW1]; exact Blk.new _ _ _
  have HC := Lib.hid (zone_c e0 l tB [] 1 rfl (by decide) a c W0.heap.size W1 ((h.kept k0).kept k1) b1)
  have HB1 := Lib.hid (HB.out.kept k1)
  have HK1 := Lib.hid (HK.out.trans k1)
  have HS1 := Lib.hid (show w.heap.size < W0.heap.size from HB.out.lt)
  have HW1 := Lib.hid (show W0.alloc (.cells #[.string tB] 9) = W1 from hW1)
  clear h hW0 k0 b0 k1 b1 hW1
  go_enter Tryz.func91, Tryz.ntmps91
  go_wp2_with (first | rw [HW0.out] | rw [HW1.out])
  refine HC.out.mono ?_
  rintro e w3 ⟨rfl, k3⟩
  have HB3 := Lib.hid (HB1.out.kept k3)
  have HK3 := Lib.hid (HK1.out.trans k3)
  obtain ⟨z0, z1, z2, g0, g1, g2⟩ := blk3 HB3.out
  clear k3
  unfold Zp.R.val
  go_wp2_with fail
  exact op_end (r := one e0 tB [] l) (by rfl) rfl rfl rfl HB3.out HK3.out

set_option maxHeartbeats 1000000 in
theorem zk_toReal (l : ByteArray) (a c) (w : World) (h : TxR w (.slice a 1 c) [l]) :
    Calls Tryz.prog 93 #[.slice a 1 c] w fun e w' => e = .returned (K.toReal.take l e0).val ∧ Kept w w' := by
  obtain ⟨W0, hW0⟩ : ∃ W, w.alloc (.cells opZ opT) = W := ⟨_, rfl⟩
  have k0 : Kept w W0 := by rw [← hW0]; exact (Kept.refl _).alloc _
  have b0 : Blk W0 w.heap.size opT opZ := by rw [← hW0]; exact Blk.new _ _ _
  have HW0 := Lib.hid hW0
  have HK := Lib.hid k0
  have HB := Lib.hid b0
  obtain ⟨W1, hW1⟩ : ∃ W, W0.alloc (.cells ([tI].map Value.string).toArray 9) = W := ⟨_, rfl⟩
  have k1 : Kept W0 W1 := by rw [← hW1]; exact (Kept.refl _).alloc _
  have b1 : Blk W1 W0.heap.size 9 ([tI].map Value.string).toArray := by rw [← hW1]; exact Blk.new _ _ _
  have HC := Lib.hid (zone_c tR l tI [] 1 rfl (by decide) a c W0.heap.size W1 ((h.kept k0).kept k1) b1)
  have HB1 := Lib.hid (HB.out.kept k1)
  have HK1 := Lib.hid (HK.out.trans k1)
  have HS1 := Lib.hid (show w.heap.size < W0.heap.size from HB.out.lt)
  have HW1 := Lib.hid (show W0.alloc (.cells #[.string tI] 9) = W1 from hW1)
  clear h hW0 k0 b0 k1 b1 hW1
  go_enter Tryz.func93, Tryz.ntmps93
  go_wp2_with (first | rw [HW0.out] | rw [HW1.out])
  refine HC.out.mono ?_
  rintro e w3 ⟨rfl, k3⟩
  have HB3 := Lib.hid (HB1.out.kept k3)
  have HK3 := Lib.hid (HK1.out.trans k3)
  obtain ⟨z0, z1, z2, g0, g1, g2⟩ := blk3 HB3.out
  clear k3
  unfold Zp.R.val
  go_wp2_with fail
  exact op_end (r := one tR tI [] l) (by rfl) rfl rfl rfl HB3.out HK3.out

set_option maxHeartbeats 1000000 in
theorem zk_toInt (l : ByteArray) (a c) (w : World) (h : TxR w (.slice a 1 c) [l]) :
    Calls Tryz.prog 95 #[.slice a 1 c] w fun e w' => e = .returned (K.toInt.take l e0).val ∧ Kept w w' := by
  obtain ⟨W0, hW0⟩ : ∃ W, w.alloc (.cells opZ opT) = W := ⟨_, rfl⟩
  have k0 : Kept w W0 := by rw [← hW0]; exact (Kept.refl _).alloc _
  have b0 : Blk W0 w.heap.size opT opZ := by rw [← hW0]; exact Blk.new _ _ _
  have HW0 := Lib.hid hW0
  have HK := Lib.hid k0
  have HB := Lib.hid b0
  obtain ⟨W1, hW1⟩ : ∃ W, W0.alloc (.cells ([tR].map Value.string).toArray 9) = W := ⟨_, rfl⟩
  have k1 : Kept W0 W1 := by rw [← hW1]; exact (Kept.refl _).alloc _
  have b1 : Blk W1 W0.heap.size 9 ([tR].map Value.string).toArray := by rw [← hW1]; exact Blk.new _ _ _
  have HC := Lib.hid (zone_c tI l tR [] 1 rfl (by decide) a c W0.heap.size W1 ((h.kept k0).kept k1) b1)
  have HB1 := Lib.hid (HB.out.kept k1)
  have HK1 := Lib.hid (HK.out.trans k1)
  have HS1 := Lib.hid (show w.heap.size < W0.heap.size from HB.out.lt)
  have HW1 := Lib.hid (show W0.alloc (.cells #[.string tR] 9) = W1 from hW1)
  clear h hW0 k0 b0 k1 b1 hW1
  go_enter Tryz.func95, Tryz.ntmps95
  go_wp2_with (first | rw [HW0.out] | rw [HW1.out])
  refine HC.out.mono ?_
  rintro e w3 ⟨rfl, k3⟩
  have HB3 := Lib.hid (HB1.out.kept k3)
  have HK3 := Lib.hid (HK1.out.trans k3)
  obtain ⟨z0, z1, z2, g0, g1, g2⟩ := blk3 HB3.out
  clear k3
  unfold Zp.R.val
  go_wp2_with fail
  exact op_end (r := one tI tR [] l) (by rfl) rfl rfl rfl HB3.out HK3.out

set_option maxHeartbeats 1000000 in
theorem zk_toLength (l : ByteArray) (a c) (w : World) (h : TxR w (.slice a 1 c) [l]) :
    Calls Tryz.prog 97 #[.slice a 1 c] w fun e w' => e = .returned (K.toLen.take l e0).val ∧ Kept w w' := by
  obtain ⟨W0, hW0⟩ : ∃ W, w.alloc (.cells opZ opT) = W := ⟨_, rfl⟩
  have k0 : Kept w W0 := by rw [← hW0]; exact (Kept.refl _).alloc _
  have b0 : Blk W0 w.heap.size opT opZ := by rw [← hW0]; exact Blk.new _ _ _
  have HW0 := Lib.hid hW0
  have HK := Lib.hid k0
  have HB := Lib.hid b0
  obtain ⟨W1, hW1⟩ : ∃ W, W0.alloc (.cells ([tS].map Value.string).toArray 9) = W := ⟨_, rfl⟩
  have k1 : Kept W0 W1 := by rw [← hW1]; exact (Kept.refl _).alloc _
  have b1 : Blk W1 W0.heap.size 9 ([tS].map Value.string).toArray := by rw [← hW1]; exact Blk.new _ _ _
  have HC := Lib.hid (zone_c tI l tS [] 1 rfl (by decide) a c W0.heap.size W1 ((h.kept k0).kept k1) b1)
  have HB1 := Lib.hid (HB.out.kept k1)
  have HK1 := Lib.hid (HK.out.trans k1)
  have HS1 := Lib.hid (show w.heap.size < W0.heap.size from HB.out.lt)
  have HW1 := Lib.hid (show W0.alloc (.cells #[.string tS] 9) = W1 from hW1)
  clear h hW0 k0 b0 k1 b1 hW1
  go_enter Tryz.func97, Tryz.ntmps97
  go_wp2_with (first | rw [HW0.out] | rw [HW1.out])
  refine HC.out.mono ?_
  rintro e w3 ⟨rfl, k3⟩
  have HB3 := Lib.hid (HB1.out.kept k3)
  have HK3 := Lib.hid (HK1.out.trans k3)
  obtain ⟨z0, z1, z2, g0, g1, g2⟩ := blk3 HB3.out
  clear k3
  unfold Zp.R.val
  go_wp2_with fail
  exact op_end (r := one tI tS [] l) (by rfl) rfl rfl rfl HB3.out HK3.out

set_option maxHeartbeats 1000000 in
theorem zk_whatever (l r : ByteArray) (v : Value) (w : World) :
    Calls Tryz.prog 78 #[v] w fun e w' => e = .returned (K.any.take l r).val ∧ Kept w w' := by
  obtain ⟨W0, hW0⟩ : ∃ W, w.alloc (.cells opZ opT) = W := ⟨_, rfl⟩
  have k0 : Kept w W0 := by rw [← hW0]; exact (Kept.refl _).alloc _
  have b0 : Blk W0 w.heap.size opT opZ := by rw [← hW0]; exact Blk.new _ _ _
  have HW0 := Lib.hid hW0
  have HK := Lib.hid k0
  have HB := Lib.hid b0
  obtain ⟨z0, z1, z2, g0, g1, g2⟩ := blk3 b0
  clear hW0 k0 b0
  go_enter Tryz.func78, Tryz.ntmps78
  go_wp2_with (first | rw [HW0.out])
  exact op_end (r := ⟨e0, tB, false, 0⟩) (by rfl) rfl rfl rfl HB.out HK.out

set_option maxHeartbeats 1000000 in
theorem zk_truths (l r : ByteArray) (a c) (w : World) (h : TxR w (.slice a 2 c) [l, r]) :
    Calls Tryz.prog 77 #[.slice a 2 c] w fun e w' => e = .returned (K.truths.take l r).val ∧ Kept w w' := by
  obtain ⟨W0, hW0⟩ : ∃ W, w.alloc (.cells opZ opT) = W := ⟨_, rfl⟩
  have k0 : Kept w W0 := by rw [← hW0]; exact (Kept.refl _).alloc _
  have b0 : Blk W0 w.heap.size opT opZ := by rw [← hW0]; exact Blk.new _ _ _
  have HW0 := Lib.hid hW0
  have HK := Lib.hid k0
  have HB := Lib.hid b0
  obtain ⟨W1, hW1⟩ : ∃ W, W0.alloc (.cells ([tB].map Value.string).toArray 9) = W := ⟨_, rfl⟩
  have k1 : Kept W0 W1 := by rw [← hW1]; exact (Kept.refl _).alloc _
  have b1 : Blk W1 W0.heap.size 9 ([tB].map Value.string).toArray := by rw [← hW1]; exact Blk.new _ _ _
  have HC := Lib.hid (zboth_c tB l r [tB] 1 rfl (by decide) _ W0.heap.size W1 a c rfl ((h.kept k0).kept k1) b1)
  have HB1 := Lib.hid (HB.out.kept k1)
  have HK1 := Lib.hid (HK.out.trans k1)
  have HS1 := Lib.hid (show w.heap.size < W0.heap.size from HB.out.lt)
  have HW1 := Lib.hid (show W0.alloc (.cells #[.string tB] 9) = W1 from hW1)
  clear h hW0 k0 b0 k1 b1 hW1
  go_enter Tryz.func77, Tryz.ntmps77
  go_wp2_with (first | rw [HW0.out] | rw [HW1.out])
  refine HC.out.mono ?_
  rintro e w3 ⟨rfl, k3⟩
  have HB3 := Lib.hid (HB1.out.only k3 (by have := HS1.out; omega))
  have HK3 := Lib.hid (HK1.out.only k3 rfl (fun k e => by have := HS1.out; omega))
  obtain ⟨r0, hr0⟩ : ∃ r0, both tB [tB] l r = r0 := ⟨_, rfl⟩
  rw [hr0]
  have HR0 := Lib.hid hr0
  clear hr0
  obtain ⟨W4, hW4⟩ : ∃ W, w3.alloc (.cells #[.string r0.arg, .string r0.res, .bool r0.dyn] opT) = W := ⟨_, rfl⟩
  have k4 : Kept w3 W4 := by rw [← hW4]; exact (Kept.refl _).alloc _
  have b4 : Blk W4 w3.heap.size opT #[.string r0.arg, .string r0.res, .bool r0.dyn] := by rw [← hW4]; exact Blk.new _ _ _
  have HB4 := Lib.hid b4
  have HN4 := Lib.hid (show w.heap.size < w3.heap.size from HB3.out.lt)
  have HB5 := Lib.hid (HB3.out.kept k4)
  have HK4 := Lib.hid (HK3.out.trans k4)
  obtain ⟨z0, z1, z2, g0, g1, g2⟩ := blk3 HB5.out
  have i0 := HB4.out.frozen 0
  have i1 := HB4.out.frozen 1
  have i2 := HB4.out.frozen 2
  have j0 := HB4.out.cell 0
  have j1 := HB4.out.cell 1
  have j2 := HB4.out.cell 2
  simp at j0 j1 j2
  have HW4 := Lib.hid hW4
  clear k3 k4 b4 hW4
  unfold Zp.R.val
  cases hd : r0.dyn with
  | false =>
    rw [hd] at HB4 HW4 j2
    have HE := Lib.hid (show K.truths.take l r = ⟨r0.arg, r0.res, false, r0.err⟩ by show (if (both tB [tB] l r).dyn = true then _ else _) = _; rw [HR0.out, hd, if_neg (by decide), ← hd])
    clear hd
    go_wp2_with (first | rw [HW4.out])
    rw [HE.out]
    exact op_end (r := ⟨r0.arg, r0.res, false, r0.err⟩) (by rfl) rfl rfl rfl HB5.out HK4.out
  | true =>
    rw [hd] at HB4 HW4 j2
    have HE := Lib.hid (show K.truths.take l r = ⟨tB, r0.res, false, r0.err⟩ by show (if (both tB [tB] l r).dyn = true then _ else _) = _; rw [HR0.out, hd]; rfl)
    clear hd
    obtain ⟨W5, hW5⟩ : ∃ W, (W4.setCell ⟨w3.heap.size, 0, none⟩ (.string tB)).setCell ⟨w3.heap.size, 2, none⟩ (.bool false) = W := ⟨_, rfl⟩
    have o5 : Only (· = w3.heap.size) W4 W5 := by rw [← hW5]; exact ((Only.refl _ _).put 0 _).put 2 _
    have b5 : Blk W5 w3.heap.size opT #[.string tB, .string r0.res, .bool false] := by
      rw [← hW5]
      have := (HB4.out.put 0 (.string tB)).put 2 (.bool false)
      simpa using this
    have HB6 := Lib.hid (HB5.out.only o5 (by have := HN4.out; omega))
    have HK5 := Lib.hid (show Kept w W5 from HK4.out.only o5 rfl (fun k e => by have := HN4.out; omega))
    have HW5 := Lib.hid hW5
    obtain ⟨p0, p1, p2, q0, q1, q2⟩ := blk3 b5
    obtain ⟨s0, s1, s2, t0, t1, t2⟩ := blk3 HB6.out
    clear hW5 o5 b5
    go_wp2_with (first | rw [HW4.out] | rw [HW5.out])
    rw [HE.out]
    exact op_end (r := ⟨tB, r0.res, false, r0.err⟩) (by rfl) rfl rfl rfl HB6.out HK5.out
end Go.Proofs.YtcaailiijmjdlaaGreatDoor
