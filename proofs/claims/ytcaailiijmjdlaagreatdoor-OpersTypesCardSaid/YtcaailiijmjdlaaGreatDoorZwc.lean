/- OpersTypes: what is told of types is what the document says. -/
import Derived.Test.YtcaailiijmjdlaaGreatDoorZwb
import Derived.Test.YtcaailiijmjdlaaGreatDoorZrb
import Derived.Test.YtcaailiijmjdlaaGreatDoorZrc
set_option linter.unusedSimpArgs false
set_option linter.unusedVariables false
set_option maxRecDepth 100000
namespace Go.Proofs.YtcaailiijmjdlaaGreatDoor
open Go.ChangeShapes Go.WideShapes Go.ChangeAt Go.RowKit Flo
attribute [local go_sem] Oper.semAt_some
open Zp (V R binV unV convV)

set_option maxHeartbeats 4000000 in
theorem otypes_c (op l r : ByteArray) (w : World) (hT : Tb w) (hop : op.size ≤ maxLen) (hl : l.size ≤ maxLen) (hr : r.size ≤ maxLen) : Calls Tryz.prog 3 #[.string op, .string l, .string r] w fun e w' => e = .returned (.bool true) ∧ Kept w w' := by
  have HT := Lib.hid hT
  unfold maxLen at hop hl hr
  clear hT
  by_cases h1 : (40 : Int) < op.size
  · go_enter Tryz.func3, Tryz.ntmps3
    go_wp2_with fail
    refine (lawake_c w HT.out).mono ?_
    rintro e w1 ⟨rfl, k1⟩
    have HK := Lib.hid k1
    clear k1
    go_wp2_with fail
    go_ret
    exact ⟨rfl, HK.out⟩
  by_cases h2 : (40 : Int) < l.size
  · go_enter Tryz.func3, Tryz.ntmps3
    go_wp2_with fail
    refine (lawake_c w HT.out).mono ?_
    rintro e w1 ⟨rfl, k1⟩
    have HK := Lib.hid k1
    clear k1
    go_wp2_with fail
    go_ret
    exact ⟨rfl, HK.out⟩
  by_cases h3 : (40 : Int) < r.size
  · go_enter Tryz.func3, Tryz.ntmps3
    go_wp2_with fail
    refine (lawake_c w HT.out).mono ?_
    rintro e w1 ⟨rfl, k1⟩
    have HK := Lib.hid k1
    clear k1
    go_wp2_with fail
    go_ret
    exact ⟨rfl, HK.out⟩
  have HO := Lib.hid (show Small op from smallL (by omega))
  have HL := Lib.hid (show Small l from smallL (by omega))
  have HR := Lib.hid (show Small r from smallL (by omega))
  obtain ⟨A, hA⟩ : ∃ A, binV op l r = A := ⟨_, rfl⟩
  obtain ⟨B, hB⟩ : ∃ A, unV op l = A := ⟨_, rfl⟩
  obtain ⟨C, hC⟩ : ∃ A, convV op l = A := ⟨_, rfl⟩
  obtain ⟨Z, hZ⟩ : ∃ A, zeroV l = A := ⟨_, rfl⟩
  obtain ⟨E, hE⟩ : ∃ A, zeroE l = A := ⟨_, rfl⟩
  have c0 := fun W (h : Tb W) => zbin_c op l r HO.out HL.out HR.out W h
  have c1 := fun W => rbin_c op l r HL.out HR.out W
  have c2 := fun W (h : Tb W) => zun_c op l HO.out HL.out W h
  have c3 := fun W => rrun_c op l W
  have c4 := fun W (h : Tb W) => zconv_c op l HO.out HL.out W h
  have c5 := fun W => rcnv_c op l W
  have c6 := fun W (h : Tb W) => zzero_c l HL.out W h
  have c7 := fun W => rzero_c l HL.out W
  rw [hA] at c0
  rw [← Zp.bin_eq, hA] at c1
  rw [hB] at c2
  rw [← Zp.un_eq, hB] at c3
  rw [hC] at c4
  rw [← Zp.conv_eq, hC] at c5
  rw [hZ, hE] at c6 c7
  replace c0 := Lib.hid c0
  replace c1 := Lib.hid c1
  replace c2 := Lib.hid c2
  replace c3 := Lib.hid c3
  replace c4 := Lib.hid c4
  replace c5 := Lib.hid c5
  replace c6 := Lib.hid c6
  replace c7 := Lib.hid c7
  have q1 := eqOp_same A
  have q2 := eqOp_same B
  have q3 := eqOp_same C
  have HK0 := Lib.hid (Kept.refl w)
  clear hA hB hC hZ hE
  go_enter Tryz.func3, Tryz.ntmps3
  go_wp2_with fail
  refine (c0.out w (HT.out.kept HK0.out)).mono ?_
  rintro e u0 ⟨rfl, k⟩
  obtain ⟨X0, hX⟩ : ∃ W, u0.alloc (.cells #[.string A.arg, .string A.res, .bool A.dyn] opT) = W := ⟨_, rfl⟩
  obtain ⟨k', b', _⟩ := vnew hX
  have HX := Lib.hid hX
  have HK1 := Lib.hid (HK0.out.trans (k.trans k'))
  have HB0 := Lib.hid b'
  clear k k' b' hX
  (try unfold Zp.R.val)
  go_wp2_with (rw [HX.out])
  refine (c1.out X0).mono ?_
  rintro e u1 ⟨rfl, k⟩
  obtain ⟨X1, hX⟩ : ∃ W, u1.alloc (.cells #[.string A.arg, .string A.res, .bool A.dyn] opT) = W := ⟨_, rfl⟩
  obtain ⟨k', b', _⟩ := vnew hX
  have HX := Lib.hid hX
  have HK2 := Lib.hid (HK1.out.trans (k.trans k'))
  have HB1 := Lib.hid b'
  replace HB0 := Lib.hid (HB0.out.kept (k.trans k'))
  clear k k' b' hX
  (try unfold Zp.R.val)
  go_wp2_with (rw [HX.out])
  refine (c2.out X1 (HT.out.kept HK2.out)).mono ?_
  rintro e u2 ⟨rfl, k⟩
  obtain ⟨X2, hX⟩ : ∃ W, u2.alloc (.cells #[.string B.arg, .string B.res, .bool B.dyn] opT) = W := ⟨_, rfl⟩
  obtain ⟨k', b', _⟩ := vnew hX
  have HX := Lib.hid hX
  have HK3 := Lib.hid (HK2.out.trans (k.trans k'))
  have HB2 := Lib.hid b'
  replace HB0 := Lib.hid (HB0.out.kept (k.trans k'))
  replace HB1 := Lib.hid (HB1.out.kept (k.trans k'))
  clear k k' b' hX
  (try unfold Zp.R.val)
  go_wp2_with (rw [HX.out])
  refine (c3.out X2).mono ?_
  rintro e u3 ⟨rfl, k⟩
  obtain ⟨X3, hX⟩ : ∃ W, u3.alloc (.cells #[.string B.arg, .string B.res, .bool B.dyn] opT) = W := ⟨_, rfl⟩
  obtain ⟨k', b', _⟩ := vnew hX
  have HX := Lib.hid hX
  have HK4 := Lib.hid (HK3.out.trans (k.trans k'))
  have HB3 := Lib.hid b'
  replace HB0 := Lib.hid (HB0.out.kept (k.trans k'))
  replace HB1 := Lib.hid (HB1.out.kept (k.trans k'))
  replace HB2 := Lib.hid (HB2.out.kept (k.trans k'))
  clear k k' b' hX
  (try unfold Zp.R.val)
  go_wp2_with (rw [HX.out])
  refine (c4.out X3 (HT.out.kept HK4.out)).mono ?_
  rintro e u4 ⟨rfl, k⟩
  obtain ⟨X4, hX⟩ : ∃ W, u4.alloc (.cells #[.string C.arg, .string C.res, .bool C.dyn] opT) = W := ⟨_, rfl⟩
  obtain ⟨k', b', _⟩ := vnew hX
  have HX := Lib.hid hX
  have HK5 := Lib.hid (HK4.out.trans (k.trans k'))
  have HB4 := Lib.hid b'
  replace HB0 := Lib.hid (HB0.out.kept (k.trans k'))
  replace HB1 := Lib.hid (HB1.out.kept (k.trans k'))
  replace HB2 := Lib.hid (HB2.out.kept (k.trans k'))
  replace HB3 := Lib.hid (HB3.out.kept (k.trans k'))
  clear k k' b' hX
  (try unfold Zp.R.val)
  go_wp2_with (rw [HX.out])
  refine (c5.out X4).mono ?_
  rintro e u5 ⟨rfl, k⟩
  obtain ⟨X5, hX⟩ : ∃ W, u5.alloc (.cells #[.string C.arg, .string C.res, .bool C.dyn] opT) = W := ⟨_, rfl⟩
  obtain ⟨k', b', _⟩ := vnew hX
  have HX := Lib.hid hX
  have HK6 := Lib.hid (HK5.out.trans (k.trans k'))
  have HB5 := Lib.hid b'
  replace HB0 := Lib.hid (HB0.out.kept (k.trans k'))
  replace HB1 := Lib.hid (HB1.out.kept (k.trans k'))
  replace HB2 := Lib.hid (HB2.out.kept (k.trans k'))
  replace HB3 := Lib.hid (HB3.out.kept (k.trans k'))
  replace HB4 := Lib.hid (HB4.out.kept (k.trans k'))
  clear k k' b' hX
  (try unfold Zp.R.val)
  go_wp2_with (rw [HX.out])
  refine (c6.out X5 (HT.out.kept HK6.out)).mono ?_
  rintro e u6 ⟨rfl, k⟩
  obtain ⟨X6, hX⟩ : ∃ W, u6.alloc (.cells #[.int .i64 Z.tag, .int .i64 Z.n, .int .u64 (Z.bits : Int), .string Z.s, .slice none 0 0] vT) = W := ⟨_, rfl⟩
  obtain ⟨k', b', _⟩ := vnew hX
  have HX := Lib.hid hX
  have HK7 := Lib.hid (HK6.out.trans (k.trans k'))
  have HB6 := Lib.hid b'
  replace HB0 := Lib.hid (HB0.out.kept (k.trans k'))
  replace HB1 := Lib.hid (HB1.out.kept (k.trans k'))
  replace HB2 := Lib.hid (HB2.out.kept (k.trans k'))
  replace HB3 := Lib.hid (HB3.out.kept (k.trans k'))
  replace HB4 := Lib.hid (HB4.out.kept (k.trans k'))
  replace HB5 := Lib.hid (HB5.out.kept (k.trans k'))
  clear k k' b' hX
  (try unfold Zp.R.val)
  go_wp2_with (rw [HX.out])
  refine (c7.out X6).mono ?_
  rintro e u7 ⟨rfl, k⟩
  obtain ⟨X7, hX⟩ : ∃ W, u7.alloc (.cells #[.int .i64 Z.tag, .int .i64 Z.n, .int .u64 (Z.bits : Int), .string Z.s, .slice none 0 0] vT) = W := ⟨_, rfl⟩
  obtain ⟨k', b', _⟩ := vnew hX
  have HX := Lib.hid hX
  have HK8 := Lib.hid (HK7.out.trans (k.trans k'))
  have HB7 := Lib.hid b'
  replace HB0 := Lib.hid (HB0.out.kept (k.trans k'))
  replace HB1 := Lib.hid (HB1.out.kept (k.trans k'))
  replace HB2 := Lib.hid (HB2.out.kept (k.trans k'))
  replace HB3 := Lib.hid (HB3.out.kept (k.trans k'))
  replace HB4 := Lib.hid (HB4.out.kept (k.trans k'))
  replace HB5 := Lib.hid (HB5.out.kept (k.trans k'))
  replace HB6 := Lib.hid (HB6.out.kept (k.trans k'))
  clear k k' b' hX
  (try unfold Zp.R.val)
  obtain ⟨a0, b0, d0, _⟩ := blk3 HB0.out
  obtain ⟨a1, b1, d1, _⟩ := blk3 HB1.out
  obtain ⟨a2, b2, d2, _⟩ := blk3 HB2.out
  obtain ⟨a3, b3, d3, _⟩ := blk3 HB3.out
  obtain ⟨a4, b4, d4, _⟩ := blk3 HB4.out
  obtain ⟨a5, b5, d5, _⟩ := blk3 HB5.out
  obtain ⟨⟨a6, b6, d6, e6, f6⟩, _⟩ := blk5 HB6.out
  obtain ⟨⟨a7, b7, d7, e7, f7⟩, _⟩ := blk5 HB7.out
  go_wp2_with (rw [HX.out])
  refine (sameVal_c Z Z _).mono ?_
  rintro e v1 ⟨rfl, k⟩
  rw [sameV_self]
  have HV := Lib.hid (HK8.out.trans k)
  clear k
  go_wp2_with fail
  refine (lawake_c v1 (HT.out.kept HV.out)).mono ?_
  rintro e v2 ⟨rfl, k⟩
  have HV2 := Lib.hid (HV.out.trans k)
  clear k
  go_wp2_with fail
  go_ret
  exact ⟨rfl, HV2.out⟩
end Go.Proofs.YtcaailiijmjdlaaGreatDoor
