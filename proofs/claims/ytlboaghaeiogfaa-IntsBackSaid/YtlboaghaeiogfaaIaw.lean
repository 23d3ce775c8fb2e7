/- Contracts of the law's own helpers: does, reads, op, awake, and of the chapter's examples. What was in the world stays as it was. -/
import Derived.Test.YtlboaghaeiogfaaIrs
set_option linter.unusedSimpArgs false
set_option linter.unusedVariables false
namespace Go.Proofs.Ytlboaghaeiogfaa
open Go.ChangeShapes Go.WideShapes Go.ChangeAt Go.RowKit

theorem does_t (s : ByteArray) (a b n e : Int) (hs : s.size ≤ maxLen) (hv : doV s.data.toList a b = n) (he : doE s.data.toList b = e) (w : World) : Calls Try.prog 18 #[.string s, .int .i64 a, .int .i64 b, .int .i64 n, .int .i64 e] w fun r w' => r = .returned (.bool true) ∧ Kept w w' := by
  have H := doR_c s a b hs w
  rw [hv, he] at H
  have H := Lib.hid H
  clear hv he hs
  go_enter Try.func18, Try.ntmps18
  go_wp2_with fail
  refine H.out.mono ?_
  rintro r w1 ⟨rfl, hk⟩
  go_wp2_with fail
  go_ret
  exact ⟨rfl, hk⟩

theorem reads_t (s : ByteArray) (n e : Int) (hs : s.size ≤ maxLen) (hv : Dec.rdN s.data.toList = n) (he : Dec.rdE s.data.toList = e) (w : World) : Calls Try.prog 19 #[.string s, .int .i64 n, .int .i64 e] w fun r w' => r = .returned (.bool true) ∧ Kept w w' := by
  have H := readR_c s hs w
  rw [hv, he] at H
  have H := Lib.hid H
  clear hv he hs
  go_enter Try.func19, Try.ntmps19
  go_wp2_with fail
  refine H.out.mono ?_
  rintro r w1 ⟨rfl, hk⟩
  go_wp2_with fail
  go_ret
  exact ⟨rfl, hk⟩

theorem op_c (s : ByteArray) (a b n : Int) (hs : s.size ≤ maxLen) (hv : doV s.data.toList a b = n) (he : doE s.data.toList b = 0) (w : World) : Calls Try.prog 20 #[.string s, .int .i64 a, .int .i64 b] w fun r w' => r = .returned (.int .i64 n) ∧ Kept w w' := by
  have H := doR_c s a b hs w
  rw [hv, he] at H
  have H := Lib.hid H
  clear hv he hs
  go_enter Try.func20, Try.ntmps20
  go_wp2_with fail
  refine H.out.mono ?_
  rintro r w1 ⟨rfl, hk⟩
  go_wp2_with fail
  go_ret
  exact ⟨rfl, hk⟩

theorem one_le : ∀ c : UInt8, (⟨#[c]⟩ : ByteArray).size ≤ maxLen := fun c => by unfold maxLen; show 1 ≤ _; omega

theorem txt12 : Dec.txt (-12) = [45, 49, 50] := by
  have : Dec.txt (-12) = 45 :: Dec.digs 12 := by unfold Dec.txt; rw [if_pos (by decide)]; rfl
  rw [this, Dec.digs_ge (by decide), Dec.digs_lt (by decide)]
  rfl

theorem awake_c (w : World) : Calls Try.prog 9 #[] w fun e w' => e = .returned (.bool true) ∧ Kept w w' := by
  have H1 := Lib.hid (fun w => does_t ⟨#[43]⟩ 9223372036854775807 1 (-9223372036854775808) 0 (one_le _) (by kernel_rfl) (by kernel_rfl) w)
  have H2 := Lib.hid (fun w => does_t ⟨#[47]⟩ (-7) 2 (-3) 0 (one_le _) (by kernel_rfl) (by kernel_rfl) w)
  have H3 := Lib.hid (fun w => does_t ⟨#[37]⟩ (-7) 2 (-1) 0 (one_le _) (by kernel_rfl) (by kernel_rfl) w)
  have H4 := Lib.hid (fun w => does_t ⟨#[47]⟩ 1 0 0 3 (one_le _) (by kernel_rfl) (by kernel_rfl) w)
  have H5 := fun w => textR_c (-12) (by omega) (by omega) w
  rw [txt12] at H5
  have H5 := Lib.hid H5
  have H6 := Lib.hid (fun w => reads_t ⟨#[45, 49, 50]⟩ (-12) 0 (by unfold maxLen; show 3 ≤ _; omega) (by kernel_rfl) (by kernel_rfl) w)
  go_enter Try.func9, Try.ntmps9
  go_wp2_with fail
  refine (H1.out _).mono ?_
  rintro e w1 ⟨rfl, g1⟩
  go_wp2_with fail
  refine (H2.out _).mono ?_
  rintro e w2 ⟨rfl, g2⟩
  go_wp2_with fail
  refine (H3.out _).mono ?_
  rintro e w3 ⟨rfl, g3⟩
  go_wp2_with fail
  refine (H4.out _).mono ?_
  rintro e w4 ⟨rfl, g4⟩
  go_wp2_with fail
  refine (H5.out _).mono ?_
  rintro e w5 ⟨rfl, g5⟩
  go_wp2_with fail
  refine (H6.out _).mono ?_
  rintro e w6 ⟨rfl, g6⟩
  go_wp2_with fail
  go_ret
  exact ⟨rfl, ((((g1.trans g2).trans g3).trans g4).trans g5).trans g6⟩

theorem known_c (w : World) : Calls Try.prog 5 #[] w fun e w' => e = .returned (.bool true) ∧ Kept w w' := by
  have A1 := Lib.hid (fun w => does_t ⟨#[42]⟩ 4611686018427387904 4 0 0 (one_le _) (by kernel_rfl) (by kernel_rfl) w)
  have A2 := Lib.hid (fun w => does_t ⟨#[45]⟩ 0 (-9223372036854775808) (-9223372036854775808) 0 (one_le _) (by kernel_rfl) (by kernel_rfl) w)
  have A3 := Lib.hid (fun w => does_t ⟨#[47]⟩ 7 (-2) (-3) 0 (one_le _) (by kernel_rfl) (by kernel_rfl) w)
  have A4 := Lib.hid (fun w => does_t ⟨#[37]⟩ 7 (-2) 1 0 (one_le _) (by kernel_rfl) (by kernel_rfl) w)
  have A5 := Lib.hid (fun w => does_t ⟨#[47]⟩ (-9223372036854775808) (-1) (-9223372036854775808) 0 (one_le _) (by kernel_rfl) (by kernel_rfl) w)
  have A6 := Lib.hid (fun w => does_t ⟨#[37]⟩ (-9223372036854775808) (-1) 0 0 (one_le _) (by kernel_rfl) (by kernel_rfl) w)
  have A7 := Lib.hid (fun w => does_t ⟨#[94]⟩ 1 1 0 2 (one_le _) (by kernel_rfl) (by kernel_rfl) w)
  have B1 := Lib.hid (fun w => reads_t ⟨#[48, 49, 50]⟩ 0 5 (by unfold maxLen; show 3 ≤ _; omega) (by kernel_rfl) (by kernel_rfl) w)
  have B2 := Lib.hid (fun w => reads_t ⟨#[45, 48]⟩ 0 5 (by unfold maxLen; show 2 ≤ _; omega) (by kernel_rfl) (by kernel_rfl) w)
  have B3 := Lib.hid (fun w => reads_t ⟨#[]⟩ 0 5 (by unfold maxLen; show 0 ≤ _; omega) (by kernel_rfl) (by kernel_rfl) w)
  have B4 := Lib.hid (fun w => reads_t ⟨#[57, 50, 50, 51, 51, 55, 50, 48, 51, 54, 56, 53, 52, 55, 55, 53, 56, 48, 56]⟩ 0 3 (by unfold maxLen; show 19 ≤ _; omega) (by kernel_rfl) (by kernel_rfl) w)
  have B5 := Lib.hid (fun w => reads_t ⟨#[49, 120]⟩ 0 5 (by unfold maxLen; show 2 ≤ _; omega) (by kernel_rfl) (by kernel_rfl) w)
  have C1 := fun w => negR_c (-9223372036854775808) w
  rw [show wrap64 (-(-9223372036854775808)) = -9223372036854775808 by kernel_rfl] at C1
  have C1 := Lib.hid C1
  go_enter Try.func5, Try.ntmps5
  go_wp2_with fail
  refine (A1.out _).mono ?_
  rintro e wA1 ⟨rfl, gA1⟩
  go_wp2_with fail
  refine (A2.out _).mono ?_
  rintro e wA2 ⟨rfl, gA2⟩
  go_wp2_with fail
  refine (A3.out _).mono ?_
  rintro e wA3 ⟨rfl, gA3⟩
  go_wp2_with fail
  refine (A4.out _).mono ?_
  rintro e wA4 ⟨rfl, gA4⟩
  go_wp2_with fail
  refine (A5.out _).mono ?_
  rintro e wA5 ⟨rfl, gA5⟩
  go_wp2_with fail
  refine (A6.out _).mono ?_
  rintro e wA6 ⟨rfl, gA6⟩
  go_wp2_with fail
  refine (A7.out _).mono ?_
  rintro e wA7 ⟨rfl, gA7⟩
  go_wp2_with fail
  refine (B1.out _).mono ?_
  rintro e wB1 ⟨rfl, gB1⟩
  go_wp2_with fail
  refine (B2.out _).mono ?_
  rintro e wB2 ⟨rfl, gB2⟩
  go_wp2_with fail
  refine (B3.out _).mono ?_
  rintro e wB3 ⟨rfl, gB3⟩
  go_wp2_with fail
  refine (B4.out _).mono ?_
  rintro e wB4 ⟨rfl, gB4⟩
  go_wp2_with fail
  refine (B5.out _).mono ?_
  rintro e wB5 ⟨rfl, gB5⟩
  go_wp2_with fail
  refine (awake_c _).mono ?_
  rintro e w9 ⟨rfl, g9⟩
  go_wp2_with fail
  refine (C1.out _).mono ?_
  rintro e w' ⟨rfl, rfl⟩
  go_wp2_with fail
  go_ret
  refine ⟨rfl, ?_⟩
  repeat (first | assumption | exact Kept.refl _ | refine Kept.trans ?_ (by assumption))
end Go.Proofs.Ytlboaghaeiogfaa
