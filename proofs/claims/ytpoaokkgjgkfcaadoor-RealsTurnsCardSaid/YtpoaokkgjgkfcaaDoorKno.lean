/- The contract of the law RealsKnown: true, in every world whose table of math/bits is laid. What was in the world stays as it was. -/
import Derived.Test.YtpoaokkgjgkfcaaDoorAwk
import Derived.Test.YtpoaokkgjgkfcaaDoorToi
import Derived.Test.YtpoaokkgjgkfcaaDoorRdd
import Derived.Test.YtpoaokkgjgkfcaaDoorTxt
set_option linter.unusedSimpArgs false
set_option linter.unusedVariables false
namespace Go.Proofs.YtpoaokkgjgkfcaaDoor
open Go.ChangeShapes Go.WideShapes Go.ChangeAt Go.RowKit Flo

theorem q1 : opOf [37] = none := by kernel_rfl
theorem q2 : doN .quo 4607182418800017408 0 = 9218868437227405312 := by kernel_rfl
theorem q3 : doN .sub 4607182418800017408 4607182418800017408 = 0 := by kernel_rfl
theorem q4 : doN .mul 9223372036854775808 4607182418800017408 = 9223372036854775808 := by kernel_rfl
theorem q5 : less 9223372036854775808 0 = false := by kernel_rfl
theorem q6 : equal 9221120237041090560 9221120237041090560 = false := by kernel_rfl
theorem q7 : ord 9221120237041090560 9218868437227405312 = 1 := by kernel_rfl
theorem q8 : less 4607182418800017408 9218868437227405312 = true := by kernel_rfl
theorem q9 : floatOfInt .f64 9007199254740993 = 4845873199050653696 := by kernel_rfl
theorem q10 : inR 4607182418800017408 = true := by kernel_rfl
theorem q11 : tv 4607182418800017408 = 1 := by kernel_rfl
theorem q12 : inR 9218868437227405312 = false := by kernel_rfl
theorem q13 : inR 9223372036854775808 = true := by kernel_rfl
theorem q14 : tv 9223372036854775808 = 0 := by kernel_rfl
theorem q15 : inR 4890909195324358656 = false := by kernel_rfl
theorem q16 : inR 14114281232179134464 = true := by kernel_rfl
theorem q17 : tv 14114281232179134464 = -9223372036854775808 := by kernel_rfl
theorem q18 : Hex.lowd 16 (cn 18444492273895866369) = [55, 102, 102, 56, 48, 48, 48, 48, 48, 48, 48, 48, 48, 48, 48, 48] := by kernel_rfl
theorem q19 : Hex.val [56, 48, 48, 48, 48, 48, 48, 48, 48, 48, 48, 48, 48, 48, 48, 48] = some 9223372036854775808 := by kernel_rfl
theorem q20 : cn 9223372036854775808 = 9223372036854775808 := by kernel_rfl
theorem q21 : Hex.val [56, 48, 48, 48, 48, 48, 48, 48, 48, 48, 48, 48, 48, 48, 48, 71] = none := by kernel_rfl

set_option maxHeartbeats 1600000 in
theorem known_c (w : World) (hT : Tab w) : Calls Tryd.prog 4 #[] w fun e w' => e = .returned (.bool true) ∧ Kept w w' := by
  have H1 := Lib.hid (fun w => doR_no ⟨#[37]⟩ 4607182418800017408 4607182418800017408 w (by kernel_rfl))
  have H2 := Lib.hid (fun w => does_t ⟨#[47]⟩ .quo (by kernel_rfl) 4607182418800017408 0 9218868437227405312 q2 w)
  have H3 := Lib.hid (fun w => does_t ⟨#[45]⟩ .sub (by kernel_rfl) 4607182418800017408 4607182418800017408 0 q3 w)
  have H4 := Lib.hid (fun w => does_t ⟨#[42]⟩ .mul (by kernel_rfl) 9223372036854775808 4607182418800017408 9223372036854775808 q4 w)
  have H5 := Lib.hid (fun w => lessR_c 9223372036854775808 0 w)
  rw [q5] at H5
  have H6 := Lib.hid (fun w => equalR_c 9221120237041090560 9221120237041090560 w)
  rw [q6] at H6
  have H7 := Lib.hid (fun w => ordR_c 9221120237041090560 9218868437227405312 (by decide) (by decide) w)
  rw [q7] at H7
  have H8 := Lib.hid (fun w => lessR_c 4607182418800017408 9218868437227405312 w)
  rw [q8] at H8
  have H9 := Lib.hid (fun w => ofInt_c 9007199254740993 w)
  rw [q9] at H9
  have H10 := Lib.hid (fun w => to_yes 4607182418800017408 1 (by decide) q10 q11 w)
  have H11 := Lib.hid (fun w => to_no 9218868437227405312 (by decide) q12 w)
  have H12 := Lib.hid (fun w => to_yes 9223372036854775808 0 (by decide) q13 q14 w)
  have H13 := Lib.hid (fun w => to_no 4890909195324358656 (by decide) q15 w)
  have H14 := Lib.hid (fun w => to_yes 14114281232179134464 (-9223372036854775808) (by decide) q16 q17 w)
  have H15 := Lib.hid (fun w => awake_c w)
  have HT := Lib.hid (fun w h => textR_c 18444492273895866369 (by decide) w h)
  rw [q18] at HT
  have H16 := Lib.hid (fun w => reads_yes ⟨#[56, 48, 48, 48, 48, 48, 48, 48, 48, 48, 48, 48, 48, 48, 48, 48]⟩ 9223372036854775808 (by kernel_rfl) q19 w)
  rw [q20] at H16
  have H17 := Lib.hid (fun w => reads_len ⟨#[49]⟩ (by decide) (by decide) w)
  have H18 := Lib.hid (fun w => reads_bad ⟨#[56, 48, 48, 48, 48, 48, 48, 48, 48, 48, 48, 48, 48, 48, 48, 71]⟩ (by kernel_rfl) q21 w)
  have HTab := Lib.hid hT
  clear hT
  go_enter Tryd.func4, Tryd.ntmps4
  go_wp2_with fail
  refine (H1.out _).mono ?_
  rintro e w' ⟨rfl, hg⟩
  have hkH1 := Kept.of_grown hg
  clear hg H1
  go_wp2_with fail
  refine (H2.out _).mono ?_
  rintro e w' ⟨rfl, hg⟩
  have hkH2 := Kept.of_grown hg
  clear hg H2
  go_wp2_with fail
  refine (H3.out _).mono ?_
  rintro e w' ⟨rfl, hg⟩
  have hkH3 := Kept.of_grown hg
  clear hg H3
  go_wp2_with fail
  refine (H4.out _).mono ?_
  rintro e w' ⟨rfl, hg⟩
  have hkH4 := Kept.of_grown hg
  clear hg H4
  go_wp2_with fail
  refine (H5.out _).mono ?_
  rintro e w' ⟨rfl, rfl⟩
  clear H5
  go_wp2_with fail
  refine (H6.out _).mono ?_
  rintro e w' ⟨rfl, rfl⟩
  clear H6
  go_wp2_with fail
  refine (H7.out _).mono ?_
  rintro e w' ⟨rfl, hg⟩
  have hkH7 := Kept.of_grown hg
  clear hg H7
  go_wp2_with fail
  refine (H8.out _).mono ?_
  rintro e w' ⟨rfl, rfl⟩
  clear H8
  go_wp2_with fail
  refine (H9.out _).mono ?_
  rintro e w' ⟨rfl, rfl⟩
  clear H9
  go_wp2_with fail
  refine (H10.out _).mono ?_
  rintro e w' ⟨rfl, rfl⟩
  clear H10
  go_wp2_with fail
  refine (H11.out _).mono ?_
  rintro e w' ⟨rfl, rfl⟩
  clear H11
  go_wp2_with fail
  refine (H12.out _).mono ?_
  rintro e w' ⟨rfl, rfl⟩
  clear H12
  go_wp2_with fail
  refine (H13.out _).mono ?_
  rintro e w' ⟨rfl, rfl⟩
  clear H13
  go_wp2_with fail
  refine (H14.out _).mono ?_
  rintro e w' ⟨rfl, rfl⟩
  clear H14
  go_wp2_with fail
  refine (H15.out _).mono ?_
  rintro e w' ⟨rfl, hg⟩
  have hkH15 := Kept.of_grown hg
  clear hg H15
  go_wp2_with fail
  refine (HT.out _ ?_).mono ?_
  · refine Kept.cell ?_ HTab.out
    repeat (first | assumption | exact Kept.refl _ | refine Kept.trans ?_ (by assumption))
  rintro e w' ⟨rfl, hkT⟩
  clear HT
  go_wp2_with fail
  refine (H16.out _).mono ?_
  rintro e w' ⟨rfl, rfl⟩
  clear H16
  go_wp2_with fail
  refine (H17.out _).mono ?_
  rintro e w' ⟨rfl, rfl⟩
  clear H17
  go_wp2_with fail
  refine (H18.out _).mono ?_
  rintro e w' ⟨rfl, rfl⟩
  clear H18
  go_wp2_with fail
  go_ret
  refine ⟨rfl, ?_⟩
  repeat (first | assumption | exact Kept.refl _ | refine Kept.trans ?_ (by assumption))
end Go.Proofs.YtpoaokkgjgkfcaaDoor
