/- The law's helpers: whole, float, truth, text, takes, refuses, does; awake. -/
import Derived.Test.YtcaailiijmjdlaaGreatDoorZwa
set_option linter.unusedSimpArgs false
set_option linter.unusedVariables false
set_option maxRecDepth 100000
namespace Go.Proofs.YtcaailiijmjdlaaGreatDoor
open Go.ChangeShapes Go.WideShapes Go.ChangeAt Go.RowKit Flo
attribute [local go_sem] Oper.semAt_some
open Zp (V R Out K DK e0 dy tI tR tB tS vI vR vB vS binV)

theorem lit_end {w W0 : World} (h : w.alloc (.cells vZ vT) = W0) : Hid (w.alloc (.cells vZ vT) = W0) ∧ Hid (Blk W0 w.heap.size vT vZ) ∧ Hid (Kept w W0) := by
  obtain ⟨k0, b0, _⟩ := vnew h
  exact ⟨Lib.hid h, Lib.hid b0, Lib.hid k0⟩

theorem lwhole_c (n : Int) (w : World) : Calls Tryz.prog 31 #[.int .i64 n] w fun e w' => e = .returned (V.p (vI n)) ∧ Kept w w' := by
  obtain ⟨W0, hW0⟩ : ∃ W, w.alloc (.cells vZ vT) = W := ⟨_, rfl⟩
  obtain ⟨HW0, HB0, HK0⟩ := lit_end hW0
  obtain ⟨⟨x0, x1, x2, x3, x4⟩, f0, f1, f2, f3, f4⟩ := blk5 HB0.out
  clear hW0
  go_enter Tryz.func31, Tryz.ntmps31
  go_wp2_with (rw [HW0.out])
  exact v_end (r := vI n) (by rfl) rfl rfl HB0.out HK0.out

theorem lfloat_c (n : Nat) (w : World) : Calls Tryz.prog 34 #[.int .u64 (n : Int)] w fun e w' => e = .returned (V.p (vR n)) ∧ Kept w w' := by
  obtain ⟨W0, hW0⟩ : ∃ W, w.alloc (.cells vZ vT) = W := ⟨_, rfl⟩
  obtain ⟨HW0, HB0, HK0⟩ := lit_end hW0
  obtain ⟨⟨x0, x1, x2, x3, x4⟩, f0, f1, f2, f3, f4⟩ := blk5 HB0.out
  clear hW0
  go_enter Tryz.func34, Tryz.ntmps34
  go_wp2_with (rw [HW0.out])
  exact v_end (r := vR n) (by rfl) rfl rfl HB0.out HK0.out

theorem ltruth_c (n : Int) (w : World) : Calls Tryz.prog 35 #[.int .i64 n] w fun e w' => e = .returned (V.p (⟨3, n, 0, e0⟩)) ∧ Kept w w' := by
  obtain ⟨W0, hW0⟩ : ∃ W, w.alloc (.cells vZ vT) = W := ⟨_, rfl⟩
  obtain ⟨HW0, HB0, HK0⟩ := lit_end hW0
  obtain ⟨⟨x0, x1, x2, x3, x4⟩, f0, f1, f2, f3, f4⟩ := blk5 HB0.out
  clear hW0
  go_enter Tryz.func35, Tryz.ntmps35
  go_wp2_with (rw [HW0.out])
  exact v_end (r := ⟨3, n, 0, e0⟩) (by rfl) rfl rfl HB0.out HK0.out

theorem ltext_c (n : ByteArray) (w : World) : Calls Tryz.prog 32 #[.string n] w fun e w' => e = .returned (V.p (vS n)) ∧ Kept w w' := by
  obtain ⟨W0, hW0⟩ : ∃ W, w.alloc (.cells vZ vT) = W := ⟨_, rfl⟩
  obtain ⟨HW0, HB0, HK0⟩ := lit_end hW0
  obtain ⟨⟨x0, x1, x2, x3, x4⟩, f0, f1, f2, f3, f4⟩ := blk5 HB0.out
  clear hW0
  go_enter Tryz.func32, Tryz.ntmps32
  go_wp2_with (rw [HW0.out])
  exact v_end (r := vS n) (by rfl) rfl rfl HB0.out HK0.out

/-- Bin told just that. -/
theorem ltakes_c (op l r arg res : ByteArray) (dyn : Bool) (ho : Small op) (hl : Small l) (hr : Small r) (w : World) (hT : Tb w) (h : binV op l r = ⟨arg, res, dyn, 0⟩) :
    Calls Tryz.prog 29 #[.string op, .string l, .string r, .string arg, .string res, .bool dyn] w fun e w' => e = .returned (.bool true) ∧ Kept w w' := by
  have HC := Lib.hid (zbin_c op l r ho hl hr w hT)
  rw [h] at HC
  have hq := eqOp_same ⟨arg, res, dyn, 0⟩
  clear ho hl hr hT h
  go_enter Tryz.func29, Tryz.ntmps29
  go_wp2_with fail
  refine HC.out.mono ?_
  rintro e w1 ⟨rfl, k1⟩
  obtain ⟨W2, hW2⟩ : ∃ W, w1.alloc (.cells #[.string arg, .string res, .bool dyn] opT) = W := ⟨_, rfl⟩
  obtain ⟨k2, b2, _⟩ := vnew hW2
  obtain ⟨x0, x1, x2, _⟩ := blk3 b2
  have HK := Lib.hid (k1.trans k2)
  have HW2 := Lib.hid hW2
  clear k1 k2 b2 hW2
  unfold Zp.R.val
  go_wp2_with (rw [HW2.out])
  go_ret
  exact ⟨rfl, HK.out⟩

theorem lrefuses_c (op l r : ByteArray) (er : Int) (ho : Small op) (hl : Small l) (hr : Small r) (w : World) (hT : Tb w) (h : binV op l r = ⟨e0, e0, false, er⟩) :
    Calls Tryz.prog 30 #[.string op, .string l, .string r, .int .i64 er] w fun e w' => e = .returned (.bool true) ∧ Kept w w' := by
  have HC := Lib.hid (zbin_c op l r ho hl hr w hT)
  rw [h] at HC
  have hq := eqOp_same ⟨e0, e0, false, 0⟩
  clear ho hl hr hT h
  go_enter Tryz.func30, Tryz.ntmps30
  go_wp2_with fail
  refine HC.out.mono ?_
  rintro e w1 ⟨rfl, k1⟩
  obtain ⟨W2, hW2⟩ : ∃ W, w1.alloc (.cells #[.string e0, .string e0, .bool false] opT) = W := ⟨_, rfl⟩
  obtain ⟨k2, b2, _⟩ := vnew hW2
  obtain ⟨x0, x1, x2, f0, f1, f2⟩ := blk3 b2
  obtain ⟨W3, hW3⟩ : ∃ W, put3 W2 w1.heap.size (.string e0) (.string e0) (.bool false) = W := ⟨_, rfl⟩
  have k3 : Kept w1 W3 := by rw [← hW3]; exact k2.only (put3_only _ _ _ _ _) rfl (fun k e => by omega)
  have b3 : Blk W3 w1.heap.size opT #[.string e0, .string e0, .bool false] := by rw [← hW3]; exact put3_blk b2 _ _ _
  obtain ⟨y0, y1, y2, _⟩ := blk3 b3
  have HK := Lib.hid (k1.trans k3)
  have HW2 := Lib.hid hW2
  have HW3 := Lib.hid (show ((W2.setCell ⟨w1.heap.size, 0, none⟩ (.string e0)).setCell ⟨w1.heap.size, 1, none⟩ (.string e0)).setCell ⟨w1.heap.size, 2, none⟩ (.bool false) = W3 from hW3)
  clear k1 k2 b2 hW2 k3 b3 hW3
  unfold Zp.R.val
  go_wp2_with (first | rw [HW2.out] | rw [HW3.out])
  go_ret
  exact ⟨rfl, HK.out⟩

/-- What Do tells, and whether it is what was asked. -/
theorem ldoes_c (op : ByteArray) (ho : op.size ≤ 1000000) (a b x : V) (ha : V.okM a) (hb : V.okM b) (pa pb : Option Addr) (la ca lb cb : Nat) (w : World) (hT : Tb w) (v : V) (h : doBV op a b = ⟨v, 0, 0⟩) (hv : (v.tag, v.n, v.bits) ≠ (0, 0, 0) ∨ v.s ≠ e0) :
    Calls Tryz.prog 33 #[.string op, a.v (.slice pa la ca), b.v (.slice pb lb cb), x.p] w fun e w' => e = .returned (.bool (Zp.sameV v x)) ∧ Kept w w' := by
  obtain ⟨W1, hW1⟩ : ∃ W, w.alloc (.cells #[.int .i64 a.tag, .int .i64 a.n, .int .u64 (a.bits : Int), .string a.s, .slice pa la ca] vT) = W := ⟨_, rfl⟩
  obtain ⟨W2, hW2⟩ : ∃ W, W1.alloc (.cells #[.int .i64 b.tag, .int .i64 b.n, .int .u64 (b.bits : Int), .string b.s, .slice pb lb cb] vT) = W := ⟨_, rfl⟩
  obtain ⟨b1, b2, k2, z1⟩ := two_box hW1 hW2
  have z2 : W2.heap.size = w.heap.size + 2 := by rw [← hW2]; simp [z1]
  obtain ⟨W3, hW3⟩ : ∃ W, W2.alloc (.cells #[.int .i64 x.tag, .int .i64 x.n, .int .u64 (x.bits : Int), .string x.s, .slice none 0 0] vT) = W := ⟨_, rfl⟩
  obtain ⟨k3, b3, z3⟩ := vnew hW3
  have HX := Lib.hid (show Blk W3 (w.heap.size + 2) vT (five x none 0 0) by rw [← z2]; exact b3)
  have HK3 := Lib.hid (k2.trans k3)
  obtain ⟨⟨p0, p1, p2, p3, p4⟩, _⟩ := blk5 (b1.kept k3)
  obtain ⟨⟨q0, q1, q2, q3, q4⟩, _⟩ := blk5 (b2.kept k3)
  have HC := Lib.hid (zdo_c op ho a b ha hb pa pb la ca lb cb W3 (hT.kept (k2.trans k3)))
  rw [h] at HC
  have HW1 := Lib.hid hW1
  have HW2 := Lib.hid hW2
  have HW3 := Lib.hid hW3
  clear hW1 hW2 hW3 b1 b2 b3 k2 k3 z3 ho ha hb hT h
  go_enter Tryz.func33, Tryz.ntmps33
  go_wp2_with (first | rw [HW1.out] | rw [z1] | rw [HW2.out] | rw [z2] | rw [HW3.out])
  refine HC.out.mono ?_
  rintro e w4 ⟨rfl, k4⟩
  obtain ⟨W5, hW5⟩ : ∃ W, w4.alloc (.cells #[.int .i64 v.tag, .int .i64 v.n, .int .u64 (v.bits : Int), .string v.s, .slice none 0 0] vT) = W := ⟨_, rfl⟩
  obtain ⟨k5, b5, _⟩ := vnew hW5
  obtain ⟨⟨x0, x1, x2, x3, x4⟩, _⟩ := blk5 b5
  obtain ⟨⟨y0, y1, y2, y3, y4⟩, _⟩ := blk5 (HX.out.kept (k4.trans k5))
  have HK5 := Lib.hid (HK3.out.trans (k4.trans k5))
  have HW5 := Lib.hid hW5
  have HS := Lib.hid (sameVal_c v x W5)
  clear k4 k5 b5 hW5 p0 p1 p2 p3 p4 q0 q1 q2 q3 q4
  go_wp2_with (rw [HW5.out])
  refine HS.out.mono ?_
  rintro e w6 ⟨rfl, k6⟩
  have HK6 := Lib.hid (HK5.out.trans k6)
  clear k6
  go_wp2_with fail
  go_ret
  exact ⟨rfl, HK6.out⟩

theorem smallL {s : ByteArray} (h : s.size ≤ 1000) : Small s := by unfold Small; omega
theorem okI (n : Int) : V.okM (vI n) := ⟨by show (0 : Nat) < _; decide, by show (0 : Nat) ≤ _; decide⟩
theorem okS {s : ByteArray} (h : s.size ≤ 1000000) : V.okM (vS s) := ⟨by show (0 : Nat) < _; decide, h⟩
theorem okR {n : Nat} (h : n < 18446744073709551616) : V.okM (vR n) := ⟨h, by show (0 : Nat) ≤ _; decide⟩
set_option maxHeartbeats 2000000 in
theorem lawake_c (w : World) (hT : Tb w) : Calls Tryz.prog 8 #[] w fun e w' => e = .returned (.bool true) ∧ Kept w w' := by
  have HT := Lib.hid hT
  have H1 := Lib.hid (fun W (h : Tb W) => ltakes_c ⟨#[43]⟩ tI dy tI tI false (smallL (by decide)) (smallL (by decide)) (smallL (by decide)) W h (by kernel_rfl))
  have H2 := Lib.hid (fun W (h : Tb W) => ltakes_c ⟨#[60]⟩ dy dy dy tB true (smallL (by decide)) (smallL (by decide)) (smallL (by decide)) W h (by kernel_rfl))
  have H3 := Lib.hid (fun W (h : Tb W) => lrefuses_c ⟨#[45]⟩ tS tS 7 (smallL (by decide)) (smallL (by decide)) (smallL (by decide)) W h (by kernel_rfl))
  have H4 := Lib.hid (fun W (h : Tb W) => ldoes_c ⟨#[43]⟩ (by decide) (vI 2) (vI 3) (vI 5) (okI _) (okI _) none none 0 0 0 0 W h (vI 5) (by kernel_rfl) (.inl (by decide)))
  have H5 := Lib.hid (fun W (h : Tb W) => ldoes_c ⟨#[43]⟩ (by decide) (vS ⟨#[97, 98]⟩) (vS ⟨#[99]⟩) (vS ⟨#[97, 98, 99]⟩) (okS (by decide)) (okS (by decide)) none none 0 0 0 0 W h (vS ⟨#[97, 98, 99]⟩) (by kernel_rfl) (.inl (by decide)))
  clear hT
  go_enter Tryz.func8, Tryz.ntmps8
  go_wp2_with fail
  refine (H1.out w HT.out).mono ?_
  rintro e w1 ⟨rfl, k1⟩
  have HK1 := Lib.hid k1
  clear k1
  go_wp2_with fail
  refine (H2.out w1 (HT.out.kept HK1.out)).mono ?_
  rintro e w2 ⟨rfl, k2⟩
  have HK2 := Lib.hid (HK1.out.trans k2)
  clear k2
  go_wp2_with fail
  refine (H3.out w2 (HT.out.kept HK2.out)).mono ?_
  rintro e w3 ⟨rfl, k3⟩
  have HK3 := Lib.hid (HK2.out.trans k3)
  clear k3
  go_wp2_with fail
  refine (lwhole_c 2 w3).mono ?_
  rintro e w4 ⟨rfl, k4⟩
  go_wp2_with fail
  refine (lwhole_c 3 w4).mono ?_
  rintro e w5 ⟨rfl, k5⟩
  go_wp2_with fail
  refine (lwhole_c 5 w5).mono ?_
  rintro e w6 ⟨rfl, k6⟩
  have HK6 := Lib.hid (HK3.out.trans (k4.trans (k5.trans k6)))
  clear k4 k5 k6
  go_wp2_with fail
  refine (H4.out w6 (HT.out.kept HK6.out)).mono ?_
  rintro e w7 ⟨rfl, k7⟩
  rw [sameV_self]
  have HK7 := Lib.hid (HK6.out.trans k7)
  clear k7
  go_wp2_with fail
  refine (ltext_c _ w7).mono ?_
  rintro e w8 ⟨rfl, k8⟩
  go_wp2_with fail
  refine (ltext_c _ w8).mono ?_
  rintro e w9 ⟨rfl, k9⟩
  go_wp2_with fail
  refine (ltext_c _ w9).mono ?_
  rintro e w10 ⟨rfl, k10⟩
  have HK10 := Lib.hid (HK7.out.trans (k8.trans (k9.trans k10)))
  clear k8 k9 k10
  go_wp2_with fail
  refine (H5.out w10 (HT.out.kept HK10.out)).mono ?_
  rintro e w11 ⟨rfl, k11⟩
  rw [sameV_self]
  have HK11 := Lib.hid (HK10.out.trans k11)
  clear k11
  go_wp2_with fail
  go_ret
  exact ⟨rfl, HK11.out⟩
end Go.Proofs.YtcaailiijmjdlaaGreatDoor
