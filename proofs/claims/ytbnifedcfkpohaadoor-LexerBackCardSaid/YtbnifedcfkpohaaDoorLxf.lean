/- Some of the chapter's examples, and all of them: awake, LexerKnown. -/
import Derived.Test.YtbnifedcfkpohaaDoorLxe
set_option linter.unusedSimpArgs false
set_option linter.unusedVariables false
set_option maxRecDepth 100000
namespace Go.Proofs.YtbnifedcfkpohaaDoor
open Go.ChangeShapes Go.WideShapes Go.ChangeAt Go.RowKit Go.Shelf
attribute [local go_sem] Oper.semAt_some

theorem lx_a1 : Lx.lexesV ⟨#[105, 102, 32, 120, 60, 61, 49, 50, 114, 123, 67, 125]⟩ [⟨3, ⟨#[105, 102]⟩, 0, 0⟩, ⟨1, ⟨#[120]⟩, 0, 0⟩, ⟨7, ⟨#[60, 61]⟩, 0, 0⟩, ⟨5, ⟨#[]⟩, 12, 0⟩, ⟨7, ⟨#[123]⟩, 0, 0⟩, ⟨2, ⟨#[67]⟩, 0, 0⟩, ⟨7, ⟨#[125]⟩, 0, 0⟩] = true := by kernel_rfl
theorem lx_a2 : Lx.failsV ⟨#[49, 50, 120]⟩ 5 2 = true := by kernel_rfl
theorem lx_a3 : Lx.spellsV ⟨5, ⟨#[]⟩, 3, 0⟩ ⟨#[51, 114]⟩ 0 = true := by kernel_rfl
theorem lx_k1 : Lx.lexesV ⟨#[34, 97, 92, 110, 92, 34, 98, 34, 32, 47, 47, 32, 99]⟩ [⟨6, ⟨#[97, 10, 34, 98]⟩, 0, 0⟩] = true := by kernel_rfl
theorem lx_k2 : Lx.lexesV ⟨#[49, 32, 50]⟩ [⟨4, ⟨#[]⟩, 1, 0⟩, ⟨4, ⟨#[]⟩, 2, 0⟩] = true := by kernel_rfl
theorem lx_k3 : Lx.lexesV ⟨#[]⟩ [] = true := by kernel_rfl
theorem lx_k4 : Lx.failsV ⟨#[48, 55]⟩ 3 0 = true := by kernel_rfl
theorem lx_k5 : Lx.failsV ⟨#[34, 97]⟩ 5 0 = true := by kernel_rfl
theorem lx_k6 : Lx.failsV ⟨#[34, 92, 97, 34]⟩ 5 2 = true := by kernel_rfl
theorem lx_k7 : Lx.failsV ⟨#[97, 32, 38, 32, 98]⟩ 5 2 = true := by kernel_rfl
theorem lx_k8 : Lx.failsV ⟨#[57, 50, 50, 51, 51, 55, 50, 48, 51, 54, 56, 53, 52, 55, 55, 53, 56, 48, 56]⟩ 3 0 = true := by kernel_rfl
theorem lx_k9 : Lx.failsV ⟨#[95]⟩ 5 0 = true := by kernel_rfl
theorem lx_k10 : Lx.spellsV ⟨6, ⟨#[97, 34]⟩, 0, 0⟩ ⟨#[34, 97, 92, 34, 34]⟩ 0 = true := by kernel_rfl
theorem lx_k11 : Lx.spellsV ⟨1, ⟨#[105, 102]⟩, 0, 0⟩ ⟨#[]⟩ 5 = true := by kernel_rfl
theorem lx_j1 : ([⟨1, ⟨#[120]⟩, 0, 0⟩, ⟨7, ⟨#[61]⟩, 0, 0⟩, ⟨4, ⟨#[]⟩, 1, 0⟩] : List Lx.T).all Lx.isTok = true := by kernel_rfl
theorem lx_j2 : (⟨(Lx.joinB [⟨1, ⟨#[120]⟩, 0, 0⟩, ⟨7, ⟨#[61]⟩, 0, 0⟩, ⟨4, ⟨#[]⟩, 1, 0⟩]).toArray⟩ : ByteArray) = ⟨#[120, 32, 61, 32, 49]⟩ := by kernel_rfl

set_option maxHeartbeats 4000000 in
theorem awake_c (w : World) (hT : Tb w) (hP : Pw w) (hE : Er w) : Calls Tryd.prog 12 #[] w fun e w' => e = .returned (.bool true) ∧ Kept w w' := by
  have HT := Lib.hid hT
  have HP := Lib.hid hP
  have HE := Lib.hid hE
  have HK0 := Lib.hid (Kept.refl w)
  clear hT hP hE
  go_enter Tryd.func12, Tryd.ntmps12
  go_wp2_with fail
  refine (lkey_c ⟨#[105, 102]⟩ _).mono ?_
  rintro e w1 ⟨rfl, k1⟩
  have HK1 := Lib.hid (HK0.out.trans k1)
  clear k1
  go_wp2_with fail
  refine (lname_c ⟨#[120]⟩ _).mono ?_
  rintro e w2 ⟨rfl, k2⟩
  have HK2 := Lib.hid (HK1.out.trans k2)
  clear k2
  go_wp2_with fail
  refine (lsgn_c ⟨#[60, 61]⟩ _).mono ?_
  rintro e w3 ⟨rfl, k3⟩
  have HK3 := Lib.hid (HK2.out.trans k3)
  clear k3
  go_wp2_with fail
  refine (lsgn_c ⟨#[123]⟩ _).mono ?_
  rintro e w4 ⟨rfl, k4⟩
  have HK4 := Lib.hid (HK3.out.trans k4)
  clear k4
  go_wp2_with fail
  refine (lsgn_c ⟨#[125]⟩ _).mono ?_
  rintro e w5 ⟨rfl, k5⟩
  have HK5 := Lib.hid (HK4.out.trans k5)
  clear k5
  obtain ⟨Wa, hWa⟩ : ∃ W, w5.alloc (.cells #[.int .i64 3, .string ⟨#[105, 102]⟩, .int .i64 0, .int .i64 0, .int .i64 1, .string ⟨#[120]⟩, .int .i64 0, .int .i64 0, .int .i64 7, .string ⟨#[60, 61]⟩, .int .i64 0, .int .i64 0, .int .i64 5, .string ⟨#[]⟩, .int .i64 12, .int .i64 0, .int .i64 7, .string ⟨#[123]⟩, .int .i64 0, .int .i64 0, .int .i64 2, .string ⟨#[67]⟩, .int .i64 0, .int .i64 0, .int .i64 7, .string ⟨#[125]⟩, .int .i64 0, .int .i64 0] 24) = W := ⟨_, rfl⟩
  have kWa : Kept w5 Wa := by rw [← hWa]; exact (Kept.refl w5).alloc _
  have bWa : Blk Wa w5.heap.size 24 #[.int .i64 3, .string ⟨#[105, 102]⟩, .int .i64 0, .int .i64 0, .int .i64 1, .string ⟨#[120]⟩, .int .i64 0, .int .i64 0, .int .i64 7, .string ⟨#[60, 61]⟩, .int .i64 0, .int .i64 0, .int .i64 5, .string ⟨#[]⟩, .int .i64 12, .int .i64 0, .int .i64 7, .string ⟨#[123]⟩, .int .i64 0, .int .i64 0, .int .i64 2, .string ⟨#[67]⟩, .int .i64 0, .int .i64 0, .int .i64 7, .string ⟨#[125]⟩, .int .i64 0, .int .i64 0] := by rw [← hWa]; exact Blk.new w5 _ _
  have HKWa := Lib.hid (HK5.out.trans kWa)
  have HWa := Lib.hid hWa
  have tWa := tks_lit [⟨3, ⟨#[105, 102]⟩, 0, 0⟩, ⟨1, ⟨#[120]⟩, 0, 0⟩, ⟨7, ⟨#[60, 61]⟩, 0, 0⟩, ⟨5, ⟨#[]⟩, 12, 0⟩, ⟨7, ⟨#[123]⟩, 0, 0⟩, ⟨2, ⟨#[67]⟩, 0, 0⟩, ⟨7, ⟨#[125]⟩, 0, 0⟩] bWa rfl 7 rfl (by decide)
  have HLa : Hid (Calls Tryd.prog 7 #[.string ⟨#[105, 102, 32, 120, 60, 61, 49, 50, 114, 123, 67, 125]⟩, .slice (some ⟨w5.heap.size, 0, none⟩) 7 7] Wa fun e w' => e = .returned (.bool true) ∧ Kept Wa w') := Lib.hid (by
    have := lexes_c ⟨#[105, 102, 32, 120, 60, 61, 49, 50, 114, 123, 67, 125]⟩ (by decide) [⟨3, ⟨#[105, 102]⟩, 0, 0⟩, ⟨1, ⟨#[120]⟩, 0, 0⟩, ⟨7, ⟨#[60, 61]⟩, 0, 0⟩, ⟨5, ⟨#[]⟩, 12, 0⟩, ⟨7, ⟨#[123]⟩, 0, 0⟩, ⟨2, ⟨#[67]⟩, 0, 0⟩, ⟨7, ⟨#[125]⟩, 0, 0⟩] _ _ Wa tWa (HT.out.kept HKWa.out) (HE.out.kept HKWa.out)
    rw [lx_a1] at this
    exact this)
  clear hWa kWa bWa tWa
  go_wp2_with (rw [HWa.out])
  refine HLa.out.mono ?_
  rintro e w6 ⟨rfl, k6⟩
  have HK6 := Lib.hid (HKWa.out.trans k6)
  clear k6
  have HLb : Hid (Calls Tryd.prog 8 #[.string ⟨#[49, 50, 120]⟩, .int .i64 5, .int .i64 2] w6 fun e w' => e = .returned (.bool true) ∧ Kept w6 w') := Lib.hid (by
    have := fails_c ⟨#[49, 50, 120]⟩ (by decide) 5 2 w6 (HT.out.kept HK6.out) (HE.out.kept HK6.out)
    rw [lx_a2] at this
    exact this)
  go_wp2_with fail
  refine HLb.out.mono ?_
  rintro e w7 ⟨rfl, k7⟩
  have HK7 := Lib.hid (HK6.out.trans k7)
  clear k7
  have HLc : Hid (Calls Tryd.prog 13 #[tagg 5 ⟨#[]⟩ 3 0, .string ⟨#[51, 114]⟩, .int .i64 0] w7 fun e w' => e = .returned (.bool true) ∧ Kept w7 w') := Lib.hid (by
    have := spells_c ⟨5, ⟨#[]⟩, 3, 0⟩ ⟨#[51, 114]⟩ 0 w7 (HT.out.kept HK7.out) (HP.out.kept HK7.out) (HE.out.kept HK7.out) ⟨by decide, by decide, by decide⟩
    rw [lx_a3] at this
    exact this)
  go_wp2_with fail
  refine HLc.out.mono ?_
  rintro e w8 ⟨rfl, k8⟩
  have HK8 := Lib.hid (HK7.out.trans k8)
  clear k8
  go_wp2_with fail
  go_ret
  exact ⟨rfl, HK8.out⟩

set_option maxHeartbeats 8000000 in
theorem known_c (w : World) (hT : Tb w) (hP : Pw w) (hE : Er w) : Calls Tryd.prog 3 #[] w fun e w' => e = .returned (.bool true) ∧ Kept w w' := by
  have HT := Lib.hid hT
  have HP := Lib.hid hP
  have HE := Lib.hid hE
  have HK0 := Lib.hid (Kept.refl w)
  clear hT hP hE
  go_enter Tryd.func3, Tryd.ntmps3
  obtain ⟨Wk, hWk⟩ : ∃ W, w.alloc (.cells #[.int .i64 6, .string ⟨#[97, 10, 34, 98]⟩, .int .i64 0, .int .i64 0] 24) = W := ⟨_, rfl⟩
  have kWk : Kept w Wk := by rw [← hWk]; exact (Kept.refl w).alloc _
  have bWk : Blk Wk w.heap.size 24 #[.int .i64 6, .string ⟨#[97, 10, 34, 98]⟩, .int .i64 0, .int .i64 0] := by rw [← hWk]; exact Blk.new w _ _
  have HKWk := Lib.hid (HK0.out.trans kWk)
  have HWk := Lib.hid hWk
  have tWk := tks_lit [⟨6, ⟨#[97, 10, 34, 98]⟩, 0, 0⟩] bWk rfl 1 rfl (by decide)
  have HLd : Hid (Calls Tryd.prog 7 #[.string ⟨#[34, 97, 92, 110, 92, 34, 98, 34, 32, 47, 47, 32, 99]⟩, .slice (some ⟨w.heap.size, 0, none⟩) 1 1] Wk fun e w' => e = .returned (.bool true) ∧ Kept Wk w') := Lib.hid (by
    have := lexes_c ⟨#[34, 97, 92, 110, 92, 34, 98, 34, 32, 47, 47, 32, 99]⟩ (by decide) [⟨6, ⟨#[97, 10, 34, 98]⟩, 0, 0⟩] _ _ Wk tWk (HT.out.kept HKWk.out) (HE.out.kept HKWk.out)
    rw [lx_k1] at this
    exact this)
  clear hWk kWk bWk tWk
  go_wp2_with (rw [HWk.out])
  refine HLd.out.mono ?_
  rintro e w1 ⟨rfl, k1⟩
  have HK1 := Lib.hid (HKWk.out.trans k1)
  clear k1 HLd
  obtain ⟨Wl, hWl⟩ : ∃ W, w1.alloc (.cells #[.int .i64 4, .string ⟨#[]⟩, .int .i64 1, .int .i64 0, .int .i64 4, .string ⟨#[]⟩, .int .i64 2, .int .i64 0] 24) = W := ⟨_, rfl⟩
  have kWl : Kept w1 Wl := by rw [← hWl]; exact (Kept.refl w1).alloc _
  have bWl : Blk Wl w1.heap.size 24 #[.int .i64 4, .string ⟨#[]⟩, .int .i64 1, .int .i64 0, .int .i64 4, .string ⟨#[]⟩, .int .i64 2, .int .i64 0] := by rw [← hWl]; exact Blk.new w1 _ _
  have HKWl := Lib.hid (HK1.out.trans kWl)
  have HWl := Lib.hid hWl
  have tWl := tks_lit [⟨4, ⟨#[]⟩, 1, 0⟩, ⟨4, ⟨#[]⟩, 2, 0⟩] bWl rfl 2 rfl (by decide)
  have HLe : Hid (Calls Tryd.prog 7 #[.string ⟨#[49, 32, 50]⟩, .slice (some ⟨w1.heap.size, 0, none⟩) 2 2] Wl fun e w' => e = .returned (.bool true) ∧ Kept Wl w') := Lib.hid (by
    have := lexes_c ⟨#[49, 32, 50]⟩ (by decide) [⟨4, ⟨#[]⟩, 1, 0⟩, ⟨4, ⟨#[]⟩, 2, 0⟩] _ _ Wl tWl (HT.out.kept HKWl.out) (HE.out.kept HKWl.out)
    rw [lx_k2] at this
    exact this)
  clear hWl kWl bWl tWl
  go_wp2_with (rw [HWl.out])
  refine HLe.out.mono ?_
  rintro e w2 ⟨rfl, k2⟩
  have HK2 := Lib.hid (HKWl.out.trans k2)
  clear k2 HLe
  have HLf : Hid (Calls Tryd.prog 7 #[.string ⟨#[]⟩, .slice none 0 0] w2 fun e w' => e = .returned (.bool true) ∧ Kept w2 w') := Lib.hid (by
    have := lexes_c ⟨#[]⟩ (by decide) [] none 0 w2 Row.nil (HT.out.kept HK2.out) (HE.out.kept HK2.out)
    rw [lx_k3] at this
    exact this)
  go_wp2_with fail
  refine HLf.out.mono ?_
  rintro e w3 ⟨rfl, k3⟩
  have HK3 := Lib.hid (HK2.out.trans k3)
  clear k3 HLf
  have HLg : Hid (Calls Tryd.prog 8 #[.string ⟨#[48, 55]⟩, .int .i64 3, .int .i64 0] w3 fun e w' => e = .returned (.bool true) ∧ Kept w3 w') := Lib.hid (by
    have := fails_c ⟨#[48, 55]⟩ (by decide) 3 0 w3 (HT.out.kept HK3.out) (HE.out.kept HK3.out)
    rw [lx_k4] at this
    exact this)
  go_wp2_with fail
  refine HLg.out.mono ?_
  rintro e w4 ⟨rfl, k4⟩
  have HK4 := Lib.hid (HK3.out.trans k4)
  clear k4 HLg
  have HLh : Hid (Calls Tryd.prog 8 #[.string ⟨#[34, 97]⟩, .int .i64 5, .int .i64 0] w4 fun e w' => e = .returned (.bool true) ∧ Kept w4 w') := Lib.hid (by
    have := fails_c ⟨#[34, 97]⟩ (by decide) 5 0 w4 (HT.out.kept HK4.out) (HE.out.kept HK4.out)
    rw [lx_k5] at this
    exact this)
  go_wp2_with fail
  refine HLh.out.mono ?_
  rintro e w5 ⟨rfl, k5⟩
  have HK5 := Lib.hid (HK4.out.trans k5)
  clear k5 HLh
  have HLi : Hid (Calls Tryd.prog 8 #[.string ⟨#[34, 92, 97, 34]⟩, .int .i64 5, .int .i64 2] w5 fun e w' => e = .returned (.bool true) ∧ Kept w5 w') := Lib.hid (by
    have := fails_c ⟨#[34, 92, 97, 34]⟩ (by decide) 5 2 w5 (HT.out.kept HK5.out) (HE.out.kept HK5.out)
    rw [lx_k6] at this
    exact this)
  go_wp2_with fail
  refine HLi.out.mono ?_
  rintro e w6 ⟨rfl, k6⟩
  have HK6 := Lib.hid (HK5.out.trans k6)
  clear k6 HLi
  have HLj : Hid (Calls Tryd.prog 8 #[.string ⟨#[97, 32, 38, 32, 98]⟩, .int .i64 5, .int .i64 2] w6 fun e w' => e = .returned (.bool true) ∧ Kept w6 w') := Lib.hid (by
    have := fails_c ⟨#[97, 32, 38, 32, 98]⟩ (by decide) 5 2 w6 (HT.out.kept HK6.out) (HE.out.kept HK6.out)
    rw [lx_k7] at this
    exact this)
  go_wp2_with fail
  refine HLj.out.mono ?_
  rintro e w7 ⟨rfl, k7⟩
  have HK7 := Lib.hid (HK6.out.trans k7)
  clear k7 HLj
  have HLk : Hid (Calls Tryd.prog 8 #[.string ⟨#[57, 50, 50, 51, 51, 55, 50, 48, 51, 54, 56, 53, 52, 55, 55, 53, 56, 48, 56]⟩, .int .i64 3, .int .i64 0] w7 fun e w' => e = .returned (.bool true) ∧ Kept w7 w') := Lib.hid (by
    have := fails_c ⟨#[57, 50, 50, 51, 51, 55, 50, 48, 51, 54, 56, 53, 52, 55, 55, 53, 56, 48, 56]⟩ (by decide) 3 0 w7 (HT.out.kept HK7.out) (HE.out.kept HK7.out)
    rw [lx_k8] at this
    exact this)
  go_wp2_with fail
  refine HLk.out.mono ?_
  rintro e w8 ⟨rfl, k8⟩
  have HK8 := Lib.hid (HK7.out.trans k8)
  clear k8 HLk
  have HLl : Hid (Calls Tryd.prog 8 #[.string ⟨#[95]⟩, .int .i64 5, .int .i64 0] w8 fun e w' => e = .returned (.bool true) ∧ Kept w8 w') := Lib.hid (by
    have := fails_c ⟨#[95]⟩ (by decide) 5 0 w8 (HT.out.kept HK8.out) (HE.out.kept HK8.out)
    rw [lx_k9] at this
    exact this)
  go_wp2_with fail
  refine HLl.out.mono ?_
  rintro e w9 ⟨rfl, k9⟩
  have HK9 := Lib.hid (HK8.out.trans k9)
  clear k9 HLl
  go_wp2_with fail
  refine (lname_c ⟨#[120]⟩ _).mono ?_
  rintro e w10 ⟨rfl, k10⟩
  have HK10 := Lib.hid (HK9.out.trans k10)
  clear k10
  go_wp2_with fail
  refine (lsgn_c ⟨#[61]⟩ _).mono ?_
  rintro e w11 ⟨rfl, k11⟩
  have HK11 := Lib.hid (HK10.out.trans k11)
  clear k11
  obtain ⟨Wj, hWj⟩ : ∃ W, w11.alloc (.cells #[.int .i64 1, .string ⟨#[120]⟩, .int .i64 0, .int .i64 0, .int .i64 7, .string ⟨#[61]⟩, .int .i64 0, .int .i64 0, .int .i64 4, .string ⟨#[]⟩, .int .i64 1, .int .i64 0] 24) = W := ⟨_, rfl⟩
  have kWj : Kept w11 Wj := by rw [← hWj]; exact (Kept.refl w11).alloc _
  have bWj : Blk Wj w11.heap.size 24 #[.int .i64 1, .string ⟨#[120]⟩, .int .i64 0, .int .i64 0, .int .i64 7, .string ⟨#[61]⟩, .int .i64 0, .int .i64 0, .int .i64 4, .string ⟨#[]⟩, .int .i64 1, .int .i64 0] := by rw [← hWj]; exact Blk.new w11 _ _
  have HKWj := Lib.hid (HK11.out.trans kWj)
  have HWj := Lib.hid hWj
  have tWj := tks_lit [⟨1, ⟨#[120]⟩, 0, 0⟩, ⟨7, ⟨#[61]⟩, 0, 0⟩, ⟨4, ⟨#[]⟩, 1, 0⟩] bWj rfl 3 rfl (by decide)
  have HLm : Hid (Calls Tryd.prog 9 #[.slice (some ⟨w11.heap.size, 0, none⟩) 3 3] Wj fun e w' => e = .returned (.tuple #[.string ⟨#[120, 32, 61, 32, 49]⟩, .int .i64 0]) ∧ Kept Wj w') := Lib.hid (by
    have := join_c [⟨1, ⟨#[120]⟩, 0, 0⟩, ⟨7, ⟨#[61]⟩, 0, 0⟩, ⟨4, ⟨#[]⟩, 1, 0⟩] _ _ Wj tWj (HT.out.kept HKWj.out) (HP.out.kept HKWj.out) (HE.out.kept HKWj.out) (by intro x hx; simp at hx; rcases hx with rfl | rfl | rfl <;> exact ⟨by decide, by decide, by decide⟩) (by decide +kernel)
    rw [lx_j1, lx_j2] at this
    exact this)
  clear hWj kWj bWj tWj
  go_wp2_with (rw [HWj.out])
  refine HLm.out.mono ?_
  rintro e w12 ⟨rfl, k12⟩
  have HK12 := Lib.hid (HKWj.out.trans k12)
  clear k12 HLm
  have HLn := Lib.hid (awake_c w12 (HT.out.kept HK12.out) (HP.out.kept HK12.out) (HE.out.kept HK12.out))
  go_wp2_with fail
  refine HLn.out.mono ?_
  rintro e w13 ⟨rfl, k13⟩
  have HK13 := Lib.hid (HK12.out.trans k13)
  clear k13 HLn
  have HLo : Hid (Calls Tryd.prog 13 #[tagg 6 ⟨#[97, 34]⟩ 0 0, .string ⟨#[34, 97, 92, 34, 34]⟩, .int .i64 0] w13 fun e w' => e = .returned (.bool true) ∧ Kept w13 w') := Lib.hid (by
    have := spells_c ⟨6, ⟨#[97, 34]⟩, 0, 0⟩ ⟨#[34, 97, 92, 34, 34]⟩ 0 w13 (HT.out.kept HK13.out) (HP.out.kept HK13.out) (HE.out.kept HK13.out) ⟨by decide, by decide, by decide⟩
    rw [lx_k10] at this
    exact this)
  go_wp2_with fail
  refine HLo.out.mono ?_
  rintro e w14 ⟨rfl, k14⟩
  have HK14 := Lib.hid (HK13.out.trans k14)
  clear k14 HLo
  go_wp2_with fail
  refine (lname_c ⟨#[105, 102]⟩ _).mono ?_
  rintro e w15 ⟨rfl, k15⟩
  have HK15 := Lib.hid (HK14.out.trans k15)
  clear k15
  have HLp : Hid (Calls Tryd.prog 13 #[tagg 1 ⟨#[105, 102]⟩ 0 0, .string ⟨#[]⟩, .int .i64 5] w15 fun e w' => e = .returned (.bool true) ∧ Kept w15 w') := Lib.hid (by
    have := spells_c ⟨1, ⟨#[105, 102]⟩, 0, 0⟩ ⟨#[]⟩ 5 w15 (HT.out.kept HK15.out) (HP.out.kept HK15.out) (HE.out.kept HK15.out) ⟨by decide, by decide, by decide⟩
    rw [lx_k11] at this
    exact this)
  go_wp2_with fail
  refine HLp.out.mono ?_
  rintro e w16 ⟨rfl, k16⟩
  have HK16 := Lib.hid (HK15.out.trans k16)
  clear k16 HLp
  go_wp2_with fail
  go_ret
  exact ⟨rfl, HK16.out⟩

end Go.Proofs.YtbnifedcfkpohaaDoor
