/- The document's Bin, Un and Conv. -/
import Derived.Test.YtcaailiijmjdlaaGreatDoorZra
import Derived.Test.YtcaailiijmjdlaaGreatDoorZtq
import Derived.Test.YtcaailiijmjdlaaGreatDoorRfm
set_option linter.unusedSimpArgs false
set_option linter.unusedVariables false
set_option maxRecDepth 100000
namespace Go.Proofs.YtcaailiijmjdlaaGreatDoor
open Go.ChangeShapes Go.WideShapes Go.ChangeAt Go.RowKit
attribute [local go_sem] Oper.semAt_some
open Zp (e0 dy R bad tI tR tB tS oOr oAnd oEq oNe oLt oLe oAdd oSub oMul oDiv oMod oNot cLen takes rbin runV rconv opsL resOf)

theorem takes_dy (op : ByteArray) : takes op dy = false := takes_no op dy (by decide) (by decide) (by decide)
theorem lits {w : World} {l : List ByteArray} {W : World} (h : w.alloc (.cells (l.map Value.string).toArray 9) = W) (hm : l.length ≤ 100) : TxR W (.slice (some ⟨w.heap.size, 0, none⟩) l.length l.length) l ∧ Kept w W := by
  rw [← h]
  exact ⟨TxR.lit (t := 9) l (Blk.new _ _ _) hm, (Kept.refl _).alloc _⟩
theorem put3_keep {w W : World} {g : Nat} {t : TypeId} {a b c x y z : Value} (h : Blk W g t #[a, b, c]) (hk : Kept w W) (hg : w.heap.size ≤ g) {V : World} (e : put3 W g x y z = V) : Blk V g t #[x, y, z] ∧ Kept w V := by
  rw [← e]
  exact ⟨put3_blk h _ _ _, hk.only (put3_only W g x y z) rfl (fun k e => by omega)⟩
theorem blk_cut {W V : World} {g : Nat} {t : TypeId} {cs : Array Value} (h : Blk W g t cs) {k : Nat} (o : Only (· = k) W V) (hk : g ≠ k) : Blk V g t cs := h.only o hk

set_option maxHeartbeats 8000000 in
theorem rbin_c (op l r : ByteArray) (hl : l.size ≤ 9223372036854775807) (hr : r.size ≤ 9223372036854775807) (w : World) :
    Calls Tryz.prog 10 #[.string op, .string l, .string r] w fun e w' => e = .returned (rbin op l r).val ∧ Kept w w' := by
  obtain ⟨W0, hW0⟩ : ∃ W, w.alloc (.cells opZ opT) = W := ⟨_, rfl⟩
  have k0 : Kept w W0 := by rw [← hW0]; exact (Kept.refl _).alloc _
  have b0 : Blk W0 w.heap.size opT opZ := by rw [← hW0]; exact Blk.new _ _ _
  obtain ⟨W1, hW1⟩ : ∃ W, W0.alloc (.cells #[.string oOr, .string oAnd, .string oEq, .string oNe, .string oLt, .string oLe, .string oAdd, .string oSub, .string oMul, .string oDiv, .string oMod] 9) = W := ⟨_, rfl⟩
  obtain ⟨t1, k1⟩ := lits (l := opsL) hW1 (by decide)
  have HW0 := Lib.hid hW0
  have HW1 := Lib.hid hW1
  have HA := Lib.hid (ramong_c op _ _ _ opsL W1 t1)
  have HK1 := Lib.hid (k0.trans k1)
  have HB1 := Lib.hid (b0.kept k1)
  have HLL := Lib.hid (And.intro hl hr)
  have bEq : (op.toList == [61, 61]) = decide (op = oEq) := teqL op #[61, 61]
  have bNe : (op.toList == [33, 61]) = decide (op = oNe) := teqL op #[33, 61]
  have bOr : (op.toList == [124, 124]) = decide (op = oOr) := teqL op #[124, 124]
  have bAnd : (op.toList == [38, 38]) = decide (op = oAnd) := teqL op #[38, 38]
  have bLt : (op.toList == [60]) = decide (op = oLt) := teqL op #[60]
  have bLe : (op.toList == [60, 61]) = decide (op = oLe) := teqL op #[60, 61]
  have bL : (l.toList == [63]) = decide (l = dy) := dyB l
  have bR : (r.toList == [63]) = decide (r = dy) := dyB r
  have bRL : (r.toList == l.toList) = decide (r = l) := teqB r l
  generalize hEq : decide (op = oEq) = vEq at bEq
  generalize hNe : decide (op = oNe) = vNe at bNe
  generalize hOr : decide (op = oOr) = vOr at bOr
  generalize hAnd : decide (op = oAnd) = vAnd at bAnd
  generalize hLt : decide (op = oLt) = vLt at bLt
  generalize hLe : decide (op = oLe) = vLe at bLe
  generalize hLd : decide (l = dy) = vLd at bL
  generalize hRd : decide (r = dy) = vRd at bR
  generalize hRl : decide (r = l) = vRl at bRL
  replace hEq := Lib.hid hEq
  replace hNe := Lib.hid hNe
  replace hOr := Lib.hid hOr
  replace hAnd := Lib.hid hAnd
  replace hLt := Lib.hid hLt
  replace hLe := Lib.hid hLe
  replace hLd := Lib.hid hLd
  replace hRd := Lib.hid hRd
  replace hRl := Lib.hid hRl
  clear hW0 hW1 k0 k1 b0 t1 hl hr
  go_enter Tryz.func10, Tryz.ntmps10
  go_wp2_with (first | rw [HW0.out] | rw [HW1.out])
  refine HA.out.mono ?_
  rintro e w1 ⟨rfl, rfl⟩
  clear HA
  cases hin : Wrd.has opsL op with
  | false =>
    replace hin := Lib.hid hin
    have HE := Lib.hid (show rbin op l r = bad 2 by unfold rbin; simp only [show Zp.has opsL op = false from hin.out]; rfl)
    obtain ⟨z0, z1, z2, g0, g1, g2⟩ := blk3 HB1.out
    go_wp2_with fail
    rw [HE.out]
    exact op_end (r := bad 2) (by rfl) rfl rfl rfl HB1.out HK1.out
  | true =>
    replace hin := Lib.hid (show Zp.has opsL op = true from hin)
    have HT := Lib.hid (typeR_c l w1 HLL.out.1)
    go_wp2_with fail
    refine HT.out.mono ?_
    rintro e w2 ⟨rfl, k2⟩
    have HK2 := Lib.hid (HK1.out.trans k2)
    have HB2 := Lib.hid (HB1.out.kept k2)
    clear HT k2
    cases htl : Wrd.typ l with
    | false =>
      replace htl := Lib.hid htl
      have HE := Lib.hid (show rbin op l r = bad 7 by unfold rbin; simp only [hin.out, htl.out, true_or, if_true]; rfl)
      obtain ⟨z0, z1, z2, g0, g1, g2⟩ := blk3 HB2.out
      go_wp2_with fail
      rw [HE.out]
      exact op_end (r := bad 7) (by rfl) rfl rfl rfl HB2.out HK2.out
    | true =>
      replace htl := Lib.hid htl
      have HT := Lib.hid (typeR_c r w2 HLL.out.2)
      go_wp2_with fail
      refine HT.out.mono ?_
      rintro e w3 ⟨rfl, k3⟩
      have HK3 := Lib.hid (HK2.out.trans k3)
      have HB3 := Lib.hid (HB2.out.kept k3)
      clear HT k3
      cases htr : Wrd.typ r with
      | false =>
        replace htr := Lib.hid htr
        have HE := Lib.hid (show rbin op l r = bad 7 by unfold rbin; simp only [hin.out, htl.out, htr.out, or_true, if_true]; rfl)
        obtain ⟨z0, z1, z2, g0, g1, g2⟩ := blk3 HB3.out
        go_wp2_with fail
        rw [HE.out]
        exact op_end (r := bad 7) (by rfl) rfl rfl rfl HB3.out HK3.out
      | true =>
        replace htr := Lib.hid htr
        cases vEq with
        | true =>
          have HE := Lib.hid (show rbin op l r = ⟨e0, tB, false, 0⟩ by unfold rbin; simp only [hin.out, htl.out, htr.out, hEq.out]; rfl)
          obtain ⟨z0, z1, z2, g0, g1, g2⟩ := blk3 HB3.out
          go_wp2_with fail
          rw [HE.out]
          exact op_end (r := ⟨e0, tB, false, 0⟩) (by rfl) rfl rfl rfl HB3.out HK3.out
        | false =>
          cases vNe with
          | true =>
            have HE := Lib.hid (show rbin op l r = ⟨e0, tB, false, 0⟩ by unfold rbin; simp only [hin.out, htl.out, htr.out, hEq.out, hNe.out]; rfl)
            obtain ⟨z0, z1, z2, g0, g1, g2⟩ := blk3 HB3.out
            go_wp2_with fail
            rw [HE.out]
            exact op_end (r := ⟨e0, tB, false, 0⟩) (by rfl) rfl rfl rfl HB3.out HK3.out
          | false =>
            cases vOr with
            | true =>
              obtain ⟨W4, hW4⟩ : ∃ W, w3.alloc (.cells #[.string tB, .string dy] 9) = W := ⟨_, rfl⟩
              obtain ⟨t4, k4⟩ := lits (l := [tB, dy]) hW4 (by decide)
              have HA4 := Lib.hid (ramong_c l _ _ _ [tB, dy] W4 t4)
              have HK4 := Lib.hid (HK3.out.trans k4)
              have HB4 := Lib.hid (HB3.out.kept k4)
              have HW4 := Lib.hid hW4
              clear hW4 t4 k4
              go_wp2_with (rw [HW4.out])
              refine HA4.out.mono ?_
              rintro e w4 ⟨rfl, rfl⟩
              clear HA4
              cases hl4 : Wrd.has [tB, dy] l with
              | false =>
                replace hl4 := Lib.hid (show Zp.has [tB, dy] l = false from hl4)
                have HE := Lib.hid (show rbin op l r = bad 7 by unfold rbin; simp only [hin.out, htl.out, htr.out, hEq.out, hNe.out, hOr.out, hl4.out, true_or, if_true]; rfl)
                obtain ⟨z0, z1, z2, g0, g1, g2⟩ := blk3 HB4.out
                go_wp2_with fail
                rw [HE.out]
                exact op_end (r := bad 7) (by rfl) rfl rfl rfl HB4.out HK4.out
              | true =>
                replace hl4 := Lib.hid (show Zp.has [tB, dy] l = true from hl4)
                obtain ⟨W5, hW5⟩ : ∃ W, w4.alloc (.cells #[.string tB, .string dy] 9) = W := ⟨_, rfl⟩
                obtain ⟨t5, k5⟩ := lits (l := [tB, dy]) hW5 (by decide)
                have HA5 := Lib.hid (ramong_c r _ _ _ [tB, dy] W5 t5)
                have HK5 := Lib.hid (HK4.out.trans k5)
                have HB5 := Lib.hid (HB4.out.kept k5)
                have HW5 := Lib.hid hW5
                clear hW5 t5 k5
                go_wp2_with (rw [HW5.out])
                refine HA5.out.mono ?_
                rintro e w5 ⟨rfl, rfl⟩
                clear HA5
                cases hr4 : Wrd.has [tB, dy] r with
                | false =>
                  replace hr4 := Lib.hid (show Zp.has [tB, dy] r = false from hr4)
                  have HE := Lib.hid (show rbin op l r = bad 7 by unfold rbin; simp only [hin.out, htl.out, htr.out, hEq.out, hNe.out, hOr.out, hl4.out, hr4.out, or_true, if_true]; rfl)
                  obtain ⟨z0, z1, z2, g0, g1, g2⟩ := blk3 HB5.out
                  go_wp2_with fail
                  rw [HE.out]
                  exact op_end (r := bad 7) (by rfl) rfl rfl rfl HB5.out HK5.out
                | true =>
                  replace hr4 := Lib.hid (show Zp.has [tB, dy] r = true from hr4)
                  have HE := Lib.hid (show rbin op l r = ⟨tB, tB, false, 0⟩ by unfold rbin; simp only [hin.out, htl.out, htr.out, hEq.out, hNe.out, hOr.out, hl4.out, hr4.out]; rfl)
                  obtain ⟨z0, z1, z2, g0, g1, g2⟩ := blk3 HB5.out
                  go_wp2_with fail
                  rw [HE.out]
                  exact op_end (r := ⟨tB, tB, false, 0⟩) (by rfl) rfl rfl rfl HB5.out HK5.out
            | false =>
              cases vAnd with
              | true =>
                obtain ⟨W4, hW4⟩ : ∃ W, w3.alloc (.cells #[.string tB, .string dy] 9) = W := ⟨_, rfl⟩
                obtain ⟨t4, k4⟩ := lits (l := [tB, dy]) hW4 (by decide)
                have HA4 := Lib.hid (ramong_c l _ _ _ [tB, dy] W4 t4)
                have HK4 := Lib.hid (HK3.out.trans k4)
                have HB4 := Lib.hid (HB3.out.kept k4)
                have HW4 := Lib.hid hW4
                clear hW4 t4 k4
                go_wp2_with (rw [HW4.out])
                refine HA4.out.mono ?_
                rintro e w4 ⟨rfl, rfl⟩
                clear HA4
                cases hl4 : Wrd.has [tB, dy] l with
                | false =>
                  replace hl4 := Lib.hid (show Zp.has [tB, dy] l = false from hl4)
                  have HE := Lib.hid (show rbin op l r = bad 7 by unfold rbin; simp only [hin.out, htl.out, htr.out, hEq.out, hNe.out, hOr.out, hAnd.out, hl4.out, true_or, if_true]; rfl)
                  obtain ⟨z0, z1, z2, g0, g1, g2⟩ := blk3 HB4.out
                  go_wp2_with fail
                  rw [HE.out]
                  exact op_end (r := bad 7) (by rfl) rfl rfl rfl HB4.out HK4.out
                | true =>
                  replace hl4 := Lib.hid (show Zp.has [tB, dy] l = true from hl4)
                  obtain ⟨W5, hW5⟩ : ∃ W, w4.alloc (.cells #[.string tB, .string dy] 9) = W := ⟨_, rfl⟩
                  obtain ⟨t5, k5⟩ := lits (l := [tB, dy]) hW5 (by decide)
                  have HA5 := Lib.hid (ramong_c r _ _ _ [tB, dy] W5 t5)
                  have HK5 := Lib.hid (HK4.out.trans k5)
                  have HB5 := Lib.hid (HB4.out.kept k5)
                  have HW5 := Lib.hid hW5
                  clear hW5 t5 k5
                  go_wp2_with (rw [HW5.out])
                  refine HA5.out.mono ?_
                  rintro e w5 ⟨rfl, rfl⟩
                  clear HA5
                  cases hr4 : Wrd.has [tB, dy] r with
                  | false =>
                    replace hr4 := Lib.hid (show Zp.has [tB, dy] r = false from hr4)
                    have HE := Lib.hid (show rbin op l r = bad 7 by unfold rbin; simp only [hin.out, htl.out, htr.out, hEq.out, hNe.out, hOr.out, hAnd.out, hl4.out, hr4.out, or_true, if_true]; rfl)
                    obtain ⟨z0, z1, z2, g0, g1, g2⟩ := blk3 HB5.out
                    go_wp2_with fail
                    rw [HE.out]
                    exact op_end (r := bad 7) (by rfl) rfl rfl rfl HB5.out HK5.out
                  | true =>
                    replace hr4 := Lib.hid (show Zp.has [tB, dy] r = true from hr4)
                    have HE := Lib.hid (show rbin op l r = ⟨tB, tB, false, 0⟩ by unfold rbin; simp only [hin.out, htl.out, htr.out, hEq.out, hNe.out, hOr.out, hAnd.out, hl4.out, hr4.out]; rfl)
                    obtain ⟨z0, z1, z2, g0, g1, g2⟩ := blk3 HB5.out
                    go_wp2_with fail
                    rw [HE.out]
                    exact op_end (r := ⟨tB, tB, false, 0⟩) (by rfl) rfl rfl rfl HB5.out HK5.out
              | false =>
                obtain ⟨W6, hW6⟩ : ∃ W, w3.alloc (.cells opZ opT) = W := ⟨_, rfl⟩
                have k6 : Kept w3 W6 := by rw [← hW6]; exact (Kept.refl _).alloc _
                have b6 : Blk W6 w3.heap.size opT opZ := by rw [← hW6]; exact Blk.new _ _ _
                obtain ⟨W7, hW7⟩ : ∃ W, put3 W6 w3.heap.size (.string ⟨#[]⟩) (.string ⟨#[]⟩) (.bool false) = W := ⟨_, rfl⟩
                obtain ⟨b7, k7⟩ := put3_keep b6 k6 (Nat.le_refl _) hW7
                obtain ⟨r0, r1, r2, r3, r4, r5⟩ := blk3 b6
                have HB7 := Lib.hid b7
                have HK7 := Lib.hid (HK3.out.trans k7)
                have HR7 := Lib.hid (HB3.out.kept k7)
                have HN := Lib.hid (show w.heap.size < w3.heap.size from HB3.out.lt)
                have HW6 := Lib.hid hW6
                have HW7 := Lib.hid (show ((W6.setCell ⟨w3.heap.size, 0, none⟩ (.string ⟨#[]⟩)).setCell ⟨w3.heap.size, 1, none⟩ (.string ⟨#[]⟩)).setCell ⟨w3.heap.size, 2, none⟩ (.bool false) = W7 from hW7)
                clear hW6 hW7 k6 b6 k7 b7
                go_wp2_with (first | rw [HW6.out] | rw [HW7.out])
                refine (rtakes_c op l W7).mono ?_
                rintro e w8 ⟨rfl, k8⟩
                have HB8 := Lib.hid (HB7.out.kept k8)
                have HK8 := Lib.hid (HK7.out.trans k8)
                have HR8 := Lib.hid (HR7.out.kept k8)
                clear k8
                cases h8 : takes op l with
                | true =>
                  have hLd0 := Lib.hid (show decide (l = dy) = false from decide_eq_false (fun e => by rw [e, takes_dy] at h8; cases h8))
                  obtain rfl : vLd = false := hLd.out.symm.trans hLd0.out
                  replace h8 := Lib.hid h8
                  cases vRl with
                  | true =>
                    obtain ⟨p0, p1, p2, q0, q1, q2⟩ := blk3 HB8.out
                    obtain ⟨W9, hW9⟩ : ∃ W, w8.setCell ⟨w3.heap.size, 0, none⟩ (.string l) = W := ⟨_, rfl⟩
                    have o9 : Only (· = w3.heap.size) w8 W9 := by rw [← hW9]; exact (Only.refl _ _).put 0 _
                    have b9 : Blk W9 w3.heap.size opT #[.string l, .string ⟨#[]⟩, .bool false] := by
                      rw [← hW9]
                      have := HB8.out.put 0 (.string l)
                      simpa using this
                    have HB9 := Lib.hid b9
                    have HK9 := Lib.hid (show Kept w W9 from HK8.out.only o9 rfl (fun k e => by have := HN.out; omega))
                    have HR9 := Lib.hid (HR8.out.only o9 (by have := HN.out; omega))
                    have HW9 := Lib.hid hW9
                    obtain ⟨s0, s1, s2, t0, t1, t2⟩ := blk3 b9
                    obtain ⟨W10, hW10⟩ : ∃ W, W9.setCell ⟨w3.heap.size, 1, none⟩ (.string l) = W := ⟨_, rfl⟩
                    have o10 : Only (· = w3.heap.size) W9 W10 := by rw [← hW10]; exact (Only.refl _ _).put 1 _
                    have b10 : Blk W10 w3.heap.size opT #[.string l, .string l, .bool false] := by
                      rw [← hW10]
                      have := b9.put 1 (.string l)
                      simpa using this
                    have HB10 := Lib.hid b10
                    have HK10 := Lib.hid (show Kept w W10 from HK9.out.only o10 rfl (fun k e => by have := HN.out; omega))
                    have HR10 := Lib.hid (HR9.out.only o10 (by have := HN.out; omega))
                    have HW10 := Lib.hid hW10
                    obtain ⟨x0, x1, x2, y0, y1, y2⟩ := blk3 b10
                    clear hW9 hW10 o9 b9 o10 b10
                    cases vLt with
                    | true =>
                      have HE := Lib.hid (show rbin op l r = ⟨l, tB, false, 0⟩ by unfold rbin; simp only [hin.out, htl.out, htr.out, hEq.out, hNe.out, hOr.out, hAnd.out, h8.out, hRl.out, resOf, hLt.out]; rfl)
                      obtain ⟨W11, hW11⟩ : ∃ W, W10.setCell ⟨w3.heap.size, 1, none⟩ (.string tB) = W := ⟨_, rfl⟩
                      have o11 : Only (· = w3.heap.size) W10 W11 := by rw [← hW11]; exact (Only.refl _ _).put 1 _
                      have b11 : Blk W11 w3.heap.size opT #[.string l, .string tB, .bool false] := by
                        rw [← hW11]
                        have := HB10.out.put 1 (.string tB)
                        simpa using this
                      have HK11 := Lib.hid (show Kept w W11 from HK10.out.only o11 rfl (fun k e => by have := HN.out; omega))
                      have HR11 := Lib.hid (HR10.out.only o11 (by have := HN.out; omega))
                      have HW11 := Lib.hid hW11
                      obtain ⟨a0, a1, a2, c0, c1, c2⟩ := blk3 b11
                      obtain ⟨z0, z1, z2, g0, g1, g2⟩ := blk3 HR11.out
                      clear hW11 o11 b11
                      go_wp2_with (first | rw [HW9.out] | rw [HW10.out] | rw [HW11.out])
                      rw [HE.out]
                      exact op_end (r := ⟨l, tB, false, 0⟩) (by rfl) rfl rfl rfl HR11.out HK11.out
                    | false =>
                      cases vLe with
                      | true =>
                        have HE := Lib.hid (show rbin op l r = ⟨l, tB, false, 0⟩ by unfold rbin; simp only [hin.out, htl.out, htr.out, hEq.out, hNe.out, hOr.out, hAnd.out, h8.out, hRl.out, resOf, hLt.out, hLe.out]; rfl)
                        obtain ⟨W11, hW11⟩ : ∃ W, W10.setCell ⟨w3.heap.size, 1, none⟩ (.string tB) = W := ⟨_, rfl⟩
                        have o11 : Only (· = w3.heap.size) W10 W11 := by rw [← hW11]; exact (Only.refl _ _).put 1 _
                        have b11 : Blk W11 w3.heap.size opT #[.string l, .string tB, .bool false] := by
                          rw [← hW11]
                          have := HB10.out.put 1 (.string tB)
                          simpa using this
                        have HK11 := Lib.hid (show Kept w W11 from HK10.out.only o11 rfl (fun k e => by have := HN.out; omega))
                        have HR11 := Lib.hid (HR10.out.only o11 (by have := HN.out; omega))
                        have HW11 := Lib.hid hW11
                        obtain ⟨a0, a1, a2, c0, c1, c2⟩ := blk3 b11
                        obtain ⟨z0, z1, z2, g0, g1, g2⟩ := blk3 HR11.out
                        clear hW11 o11 b11
                        go_wp2_with (first | rw [HW9.out] | rw [HW10.out] | rw [HW11.out])
                        rw [HE.out]
                        exact op_end (r := ⟨l, tB, false, 0⟩) (by rfl) rfl rfl rfl HR11.out HK11.out
                      | false =>
                        have HE := Lib.hid (show rbin op l r = ⟨l, l, false, 0⟩ by unfold rbin; simp only [hin.out, htl.out, htr.out, hEq.out, hNe.out, hOr.out, hAnd.out, h8.out, hRl.out, resOf, hLt.out, hLe.out]; rfl)
                        obtain ⟨z0, z1, z2, g0, g1, g2⟩ := blk3 HR10.out
                        go_wp2_with (first | rw [HW9.out] | rw [HW10.out])
                        rw [HE.out]
                        exact op_end (r := ⟨l, l, false, 0⟩) (by rfl) rfl rfl rfl HR10.out HK10.out
                  | false =>
                    cases vRd with
                    | true =>
                      obtain ⟨p0, p1, p2, q0, q1, q2⟩ := blk3 HB8.out
                      obtain ⟨W9, hW9⟩ : ∃ W, w8.setCell ⟨w3.heap.size, 0, none⟩ (.string l) = W := ⟨_, rfl⟩
                      have o9 : Only (· = w3.heap.size) w8 W9 := by rw [← hW9]; exact (Only.refl _ _).put 0 _
                      have b9 : Blk W9 w3.heap.size opT #[.string l, .string ⟨#[]⟩, .bool false] := by
                        rw [← hW9]
                        have := HB8.out.put 0 (.string l)
                        simpa using this
                      have HB9 := Lib.hid b9
                      have HK9 := Lib.hid (show Kept w W9 from HK8.out.only o9 rfl (fun k e => by have := HN.out; omega))
                      have HR9 := Lib.hid (HR8.out.only o9 (by have := HN.out; omega))
                      have HW9 := Lib.hid hW9
                      obtain ⟨s0, s1, s2, t0, t1, t2⟩ := blk3 b9
                      obtain ⟨W10, hW10⟩ : ∃ W, W9.setCell ⟨w3.heap.size, 1, none⟩ (.string l) = W := ⟨_, rfl⟩
                      have o10 : Only (· = w3.heap.size) W9 W10 := by rw [← hW10]; exact (Only.refl _ _).put 1 _
                      have b10 : Blk W10 w3.heap.size opT #[.string l, .string l, .bool false] := by
                        rw [← hW10]
                        have := b9.put 1 (.string l)
                        simpa using this
                      have HB10 := Lib.hid b10
                      have HK10 := Lib.hid (show Kept w W10 from HK9.out.only o10 rfl (fun k e => by have := HN.out; omega))
                      have HR10 := Lib.hid (HR9.out.only o10 (by have := HN.out; omega))
                      have HW10 := Lib.hid hW10
                      obtain ⟨x0, x1, x2, y0, y1, y2⟩ := blk3 b10
                      clear hW9 hW10 o9 b9 o10 b10
                      cases vLt with
                      | true =>
                        have HE := Lib.hid (show rbin op l r = ⟨l, tB, false, 0⟩ by unfold rbin; simp only [hin.out, htl.out, htr.out, hEq.out, hNe.out, hOr.out, hAnd.out, h8.out, hRl.out, hRd.out, resOf, hLt.out]; rfl)
                        obtain ⟨W11, hW11⟩ : ∃ W, W10.setCell ⟨w3.heap.size, 1, none⟩ (.string tB) = W := ⟨_, rfl⟩
                        have o11 : Only (· = w3.heap.size) W10 W11 := by rw [← hW11]; exact (Only.refl _ _).put 1 _
                        have b11 : Blk W11 w3.heap.size opT #[.string l, .string tB, .bool false] := by
                          rw [← hW11]
                          have := HB10.out.put 1 (.string tB)
                          simpa using this
                        have HK11 := Lib.hid (show Kept w W11 from HK10.out.only o11 rfl (fun k e => by have := HN.out; omega))
                        have HR11 := Lib.hid (HR10.out.only o11 (by have := HN.out; omega))
                        have HW11 := Lib.hid hW11
                        obtain ⟨a0, a1, a2, c0, c1, c2⟩ := blk3 b11
                        obtain ⟨z0, z1, z2, g0, g1, g2⟩ := blk3 HR11.out
                        clear hW11 o11 b11
                        go_wp2_with (first | rw [HW9.out] | rw [HW10.out] | rw [HW11.out])
                        rw [HE.out]
                        exact op_end (r := ⟨l, tB, false, 0⟩) (by rfl) rfl rfl rfl HR11.out HK11.out
                      | false =>
                        cases vLe with
                        | true =>
                          have HE := Lib.hid (show rbin op l r = ⟨l, tB, false, 0⟩ by unfold rbin; simp only [hin.out, htl.out, htr.out, hEq.out, hNe.out, hOr.out, hAnd.out, h8.out, hRl.out, hRd.out, resOf, hLt.out, hLe.out]; rfl)
                          obtain ⟨W11, hW11⟩ : ∃ W, W10.setCell ⟨w3.heap.size, 1, none⟩ (.string tB) = W := ⟨_, rfl⟩
                          have o11 : Only (· = w3.heap.size) W10 W11 := by rw [← hW11]; exact (Only.refl _ _).put 1 _
                          have b11 : Blk W11 w3.heap.size opT #[.string l, .string tB, .bool false] := by
                            rw [← hW11]
                            have := HB10.out.put 1 (.string tB)
                            simpa using this
                          have HK11 := Lib.hid (show Kept w W11 from HK10.out.only o11 rfl (fun k e => by have := HN.out; omega))
                          have HR11 := Lib.hid (HR10.out.only o11 (by have := HN.out; omega))
                          have HW11 := Lib.hid hW11
                          obtain ⟨a0, a1, a2, c0, c1, c2⟩ := blk3 b11
                          obtain ⟨z0, z1, z2, g0, g1, g2⟩ := blk3 HR11.out
                          clear hW11 o11 b11
                          go_wp2_with (first | rw [HW9.out] | rw [HW10.out] | rw [HW11.out])
                          rw [HE.out]
                          exact op_end (r := ⟨l, tB, false, 0⟩) (by rfl) rfl rfl rfl HR11.out HK11.out
                        | false =>
                          have HE := Lib.hid (show rbin op l r = ⟨l, l, false, 0⟩ by unfold rbin; simp only [hin.out, htl.out, htr.out, hEq.out, hNe.out, hOr.out, hAnd.out, h8.out, hRl.out, hRd.out, resOf, hLt.out, hLe.out]; rfl)
                          obtain ⟨z0, z1, z2, g0, g1, g2⟩ := blk3 HR10.out
                          go_wp2_with (first | rw [HW9.out] | rw [HW10.out])
                          rw [HE.out]
                          exact op_end (r := ⟨l, l, false, 0⟩) (by rfl) rfl rfl rfl HR10.out HK10.out
                    | false =>
                      have hLd2 := hLd0
                      have HE := Lib.hid (show rbin op l r = bad 7 by unfold rbin; simp only [hin.out, htl.out, htr.out, hEq.out, hNe.out, hOr.out, hAnd.out, h8.out, hRl.out, hRd.out, hLd2.out]; rfl)
                      obtain ⟨z0, z1, z2, g0, g1, g2⟩ := blk3 HR8.out
                      go_wp2_with fail
                      rw [HE.out]
                      exact op_end (r := bad 7) (by rfl) rfl rfl rfl HR8.out HK8.out
                | false =>
                  replace h8 := Lib.hid h8
                  cases vLd with
                  | false =>
                    have HE := Lib.hid (show rbin op l r = bad 7 by unfold rbin; simp only [hin.out, htl.out, htr.out, hEq.out, hNe.out, hOr.out, hAnd.out, h8.out, hLd.out]; rfl)
                    obtain ⟨z0, z1, z2, g0, g1, g2⟩ := blk3 HR8.out
                    go_wp2_with fail
                    rw [HE.out]
                    exact op_end (r := bad 7) (by rfl) rfl rfl rfl HR8.out HK8.out
                  | true =>
                    go_wp2_with fail
                    refine (rtakes_c op r w8).mono ?_
                    rintro e w12 ⟨rfl, k12⟩
                    have HB12 := Lib.hid (HB8.out.kept k12)
                    have HK12 := Lib.hid (HK8.out.trans k12)
                    have HR12 := Lib.hid (HR8.out.kept k12)
                    clear k12
                    cases h12 : takes op r with
                    | true =>
                      replace h12 := Lib.hid h12
                      obtain ⟨p0, p1, p2, q0, q1, q2⟩ := blk3 HB12.out
                      obtain ⟨W9, hW9⟩ : ∃ W, w12.setCell ⟨w3.heap.size, 0, none⟩ (.string r) = W := ⟨_, rfl⟩
                      have o9 : Only (· = w3.heap.size) w12 W9 := by rw [← hW9]; exact (Only.refl _ _).put 0 _
                      have b9 : Blk W9 w3.heap.size opT #[.string r, .string ⟨#[]⟩, .bool false] := by
                        rw [← hW9]
                        have := HB12.out.put 0 (.string r)
                        simpa using this
                      have HB9 := Lib.hid b9
                      have HK9 := Lib.hid (show Kept w W9 from HK12.out.only o9 rfl (fun k e => by have := HN.out; omega))
                      have HR9 := Lib.hid (HR12.out.only o9 (by have := HN.out; omega))
                      have HW9 := Lib.hid hW9
                      obtain ⟨s0, s1, s2, t0, t1, t2⟩ := blk3 b9
                      obtain ⟨W10, hW10⟩ : ∃ W, W9.setCell ⟨w3.heap.size, 1, none⟩ (.string r) = W := ⟨_, rfl⟩
                      have o10 : Only (· = w3.heap.size) W9 W10 := by rw [← hW10]; exact (Only.refl _ _).put 1 _
                      have b10 : Blk W10 w3.heap.size opT #[.string r, .string r, .bool false] := by
                        rw [← hW10]
                        have := b9.put 1 (.string r)
                        simpa using this
                      have HB10 := Lib.hid b10
                      have HK10 := Lib.hid (show Kept w W10 from HK9.out.only o10 rfl (fun k e => by have := HN.out; omega))
                      have HR10 := Lib.hid (HR9.out.only o10 (by have := HN.out; omega))
                      have HW10 := Lib.hid hW10
                      obtain ⟨x0, x1, x2, y0, y1, y2⟩ := blk3 b10
                      clear hW9 hW10 o9 b9 o10 b10
                      cases vLt with
                      | true =>
                        have HE := Lib.hid (show rbin op l r = ⟨r, tB, false, 0⟩ by unfold rbin; simp only [hin.out, htl.out, htr.out, hEq.out, hNe.out, hOr.out, hAnd.out, h8.out, hLd.out, h12.out, resOf, hLt.out]; rfl)
                        obtain ⟨W11, hW11⟩ : ∃ W, W10.setCell ⟨w3.heap.size, 1, none⟩ (.string tB) = W := ⟨_, rfl⟩
                        have o11 : Only (· = w3.heap.size) W10 W11 := by rw [← hW11]; exact (Only.refl _ _).put 1 _
                        have b11 : Blk W11 w3.heap.size opT #[.string r, .string tB, .bool false] := by
                          rw [← hW11]
                          have := HB10.out.put 1 (.string tB)
                          simpa using this
                        have HK11 := Lib.hid (show Kept w W11 from HK10.out.only o11 rfl (fun k e => by have := HN.out; omega))
                        have HR11 := Lib.hid (HR10.out.only o11 (by have := HN.out; omega))
                        have HW11 := Lib.hid hW11
                        obtain ⟨a0, a1, a2, c0, c1, c2⟩ := blk3 b11
                        obtain ⟨z0, z1, z2, g0, g1, g2⟩ := blk3 HR11.out
                        clear hW11 o11 b11
                        go_wp2_with (first | rw [HW9.out] | rw [HW10.out] | rw [HW11.out])
                        rw [HE.out]
                        exact op_end (r := ⟨r, tB, false, 0⟩) (by rfl) rfl rfl rfl HR11.out HK11.out
                      | false =>
                        cases vLe with
                        | true =>
                          have HE := Lib.hid (show rbin op l r = ⟨r, tB, false, 0⟩ by unfold rbin; simp only [hin.out, htl.out, htr.out, hEq.out, hNe.out, hOr.out, hAnd.out, h8.out, hLd.out, h12.out, resOf, hLt.out, hLe.out]; rfl)
                          obtain ⟨W11, hW11⟩ : ∃ W, W10.setCell ⟨w3.heap.size, 1, none⟩ (.string tB) = W := ⟨_, rfl⟩
                          have o11 : Only (· = w3.heap.size) W10 W11 := by rw [← hW11]; exact (Only.refl _ _).put 1 _
                          have b11 : Blk W11 w3.heap.size opT #[.string r, .string tB, .bool false] := by
                            rw [← hW11]
                            have := HB10.out.put 1 (.string tB)
                            simpa using this
                          have HK11 := Lib.hid (show Kept w W11 from HK10.out.only o11 rfl (fun k e => by have := HN.out; omega))
                          have HR11 := Lib.hid (HR10.out.only o11 (by have := HN.out; omega))
                          have HW11 := Lib.hid hW11
                          obtain ⟨a0, a1, a2, c0, c1, c2⟩ := blk3 b11
                          obtain ⟨z0, z1, z2, g0, g1, g2⟩ := blk3 HR11.out
                          clear hW11 o11 b11
                          go_wp2_with (first | rw [HW9.out] | rw [HW10.out] | rw [HW11.out])
                          rw [HE.out]
                          exact op_end (r := ⟨r, tB, false, 0⟩) (by rfl) rfl rfl rfl HR11.out HK11.out
                        | false =>
                          have HE := Lib.hid (show rbin op l r = ⟨r, r, false, 0⟩ by unfold rbin; simp only [hin.out, htl.out, htr.out, hEq.out, hNe.out, hOr.out, hAnd.out, h8.out, hLd.out, h12.out, resOf, hLt.out, hLe.out]; rfl)
                          obtain ⟨z0, z1, z2, g0, g1, g2⟩ := blk3 HR10.out
                          go_wp2_with (first | rw [HW9.out] | rw [HW10.out])
                          rw [HE.out]
                          exact op_end (r := ⟨r, r, false, 0⟩) (by rfl) rfl rfl rfl HR10.out HK10.out
                    | false =>
                      replace h12 := Lib.hid h12
                      cases vRd with
                      | true =>
                        obtain ⟨p0, p1, p2, q0, q1, q2⟩ := blk3 HB12.out
                        obtain ⟨W9, hW9⟩ : ∃ W, (w12.setCell ⟨w3.heap.size, 0, none⟩ (.string dy)).setCell ⟨w3.heap.size, 2, none⟩ (.bool true) = W := ⟨_, rfl⟩
                        have o9 : Only (· = w3.heap.size) w12 W9 := by rw [← hW9]; exact ((Only.refl _ _).put 0 _).put 2 _
                        have b9 : Blk W9 w3.heap.size opT #[.string dy, .string ⟨#[]⟩, .bool true] := by
                          rw [← hW9]
                          have := (HB12.out.put 0 (.string dy)).put 2 (.bool true)
                          simpa using this
                        have HB9 := Lib.hid b9
                        have HK9 := Lib.hid (show Kept w W9 from HK12.out.only o9 rfl (fun k e => by have := HN.out; omega))
                        have HR9 := Lib.hid (HR12.out.only o9 (by have := HN.out; omega))
                        have HW9 := Lib.hid hW9
                        obtain ⟨s0, s1, s2, t0, t1, t2⟩ := blk3 b9
                        obtain ⟨W10, hW10⟩ : ∃ W, W9.setCell ⟨w3.heap.size, 1, none⟩ (.string dy) = W := ⟨_, rfl⟩
                        have o10 : Only (· = w3.heap.size) W9 W10 := by rw [← hW10]; exact (Only.refl _ _).put 1 _
                        have b10 : Blk W10 w3.heap.size opT #[.string dy, .string dy, .bool true] := by
                          rw [← hW10]
                          have := b9.put 1 (.string dy)
                          simpa using this
                        have HB10 := Lib.hid b10
                        have HK10 := Lib.hid (show Kept w W10 from HK9.out.only o10 rfl (fun k e => by have := HN.out; omega))
                        have HR10 := Lib.hid (HR9.out.only o10 (by have := HN.out; omega))
                        have HW10 := Lib.hid hW10
                        obtain ⟨x0, x1, x2, y0, y1, y2⟩ := blk3 b10
                        clear hW9 hW10 o9 b9 o10 b10
                        cases vLt with
                        | true =>
                          have HE := Lib.hid (show rbin op l r = ⟨dy, tB, true, 0⟩ by unfold rbin; simp only [hin.out, htl.out, htr.out, hEq.out, hNe.out, hOr.out, hAnd.out, h8.out, hLd.out, h12.out, hRd.out, resOf, hLt.out]; rfl)
                          obtain ⟨W11, hW11⟩ : ∃ W, W10.setCell ⟨w3.heap.size, 1, none⟩ (.string tB) = W := ⟨_, rfl⟩
                          have o11 : Only (· = w3.heap.size) W10 W11 := by rw [← hW11]; exact (Only.refl _ _).put 1 _
                          have b11 : Blk W11 w3.heap.size opT #[.string dy, .string tB, .bool true] := by
                            rw [← hW11]
                            have := HB10.out.put 1 (.string tB)
                            simpa using this
                          have HK11 := Lib.hid (show Kept w W11 from HK10.out.only o11 rfl (fun k e => by have := HN.out; omega))
                          have HR11 := Lib.hid (HR10.out.only o11 (by have := HN.out; omega))
                          have HW11 := Lib.hid hW11
                          obtain ⟨a0, a1, a2, c0, c1, c2⟩ := blk3 b11
                          obtain ⟨z0, z1, z2, g0, g1, g2⟩ := blk3 HR11.out
                          clear hW11 o11 b11
                          go_wp2_with (first | rw [HW9.out] | rw [HW10.out] | rw [HW11.out])
                          rw [HE.out]
                          exact op_end (r := ⟨dy, tB, true, 0⟩) (by rfl) rfl rfl rfl HR11.out HK11.out
                        | false =>
                          cases vLe with
                          | true =>
                            have HE := Lib.hid (show rbin op l r = ⟨dy, tB, true, 0⟩ by unfold rbin; simp only [hin.out, htl.out, htr.out, hEq.out, hNe.out, hOr.out, hAnd.out, h8.out, hLd.out, h12.out, hRd.out, resOf, hLt.out, hLe.out]; rfl)
                            obtain ⟨W11, hW11⟩ : ∃ W, W10.setCell ⟨w3.heap.size, 1, none⟩ (.string tB) = W := ⟨_, rfl⟩
                            have o11 : Only (· = w3.heap.size) W10 W11 := by rw [← hW11]; exact (Only.refl _ _).put 1 _
                            have b11 : Blk W11 w3.heap.size opT #[.string dy, .string tB, .bool true] := by
                              rw [← hW11]
                              have := HB10.out.put 1 (.string tB)
                              simpa using this
                            have HK11 := Lib.hid (show Kept w W11 from HK10.out.only o11 rfl (fun k e => by have := HN.out; omega))
                            have HR11 := Lib.hid (HR10.out.only o11 (by have := HN.out; omega))
                            have HW11 := Lib.hid hW11
                            obtain ⟨a0, a1, a2, c0, c1, c2⟩ := blk3 b11
                            obtain ⟨z0, z1, z2, g0, g1, g2⟩ := blk3 HR11.out
                            clear hW11 o11 b11
                            go_wp2_with (first | rw [HW9.out] | rw [HW10.out] | rw [HW11.out])
                            rw [HE.out]
                            exact op_end (r := ⟨dy, tB, true, 0⟩) (by rfl) rfl rfl rfl HR11.out HK11.out
                          | false =>
                            have HE := Lib.hid (show rbin op l r = ⟨dy, dy, true, 0⟩ by unfold rbin; simp only [hin.out, htl.out, htr.out, hEq.out, hNe.out, hOr.out, hAnd.out, h8.out, hLd.out, h12.out, hRd.out, resOf, hLt.out, hLe.out]; rfl)
                            obtain ⟨z0, z1, z2, g0, g1, g2⟩ := blk3 HR10.out
                            go_wp2_with (first | rw [HW9.out] | rw [HW10.out])
                            rw [HE.out]
                            exact op_end (r := ⟨dy, dy, true, 0⟩) (by rfl) rfl rfl rfl HR10.out HK10.out
                      | false =>
                        have HE := Lib.hid (show rbin op l r = bad 7 by unfold rbin; simp only [hin.out, htl.out, htr.out, hEq.out, hNe.out, hOr.out, hAnd.out, h8.out, hLd.out, h12.out, hRd.out]; rfl)
                        obtain ⟨z0, z1, z2, g0, g1, g2⟩ := blk3 HR12.out
                        go_wp2_with fail
                        rw [HE.out]
                        exact op_end (r := bad 7) (by rfl) rfl rfl rfl HR12.out HK12.out
end Go.Proofs.YtcaailiijmjdlaaGreatDoor
