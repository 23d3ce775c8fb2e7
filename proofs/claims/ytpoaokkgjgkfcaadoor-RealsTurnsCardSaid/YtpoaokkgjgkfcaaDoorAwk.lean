/- Contracts of the law's own helpers: does, number, awake. Each stands in whatever world; the world has afterwards at most new blocks and draws. -/
import Derived.Test.YtpoaokkgjgkfcaaDoorOrd
set_option linter.unusedSimpArgs false
set_option linter.unusedVariables false
namespace Go.Proofs.YtpoaokkgjgkfcaaDoor
open Go.ChangeShapes Go.WideShapes Go.ChangeAt Go.RowKit Flo

theorem does_c (s : ByteArray) (o : BinOp) (hs : opOf s.toList = some o) (a b c : Nat) (w : World) : Calls Tryd.prog 17 #[.string s, .int .u64 a, .int .u64 b, .int .u64 c] w fun e w' => e = .returned (.bool (decide (doN o a b = c))) ∧ Grown w w' := by
  have HD := Lib.hid (doR_op s a b w o hs)
  clear hs
  generalize doN o a b = x at *
  by_cases hx : x = c
  · subst hx
    rw [show decide (x = x) = true from by simp]
    go_enter Tryd.func17, Tryd.ntmps17
    go_wp2_with fail
    refine HD.out.mono ?_
    rintro e w1 ⟨rfl, hg⟩
    go_wp2_with fail
    go_ret
    exact ⟨rfl, hg⟩
  · have he : ((x : Int) == (c : Int)) = false := by rw [beq_eq_false_iff_ne]; omega
    rw [show decide (x = c) = false from by simp [hx]]
    go_enter Tryd.func17, Tryd.ntmps17
    go_wp2_with fail
    refine HD.out.mono ?_
    rintro e w1 ⟨rfl, hg⟩
    go_wp2_with fail
    go_ret
    exact ⟨rfl, hg⟩

theorem ofInt_c (n : Int) (w : World) : Calls Tryd.prog 12 #[.int .i64 n] w fun e w' => e = .returned (.int .u64 (floatOfInt .f64 n : Nat)) ∧ w = w' := by
  have hk := k_bits
  go_enter Tryd.func12, Tryd.ntmps12
  go_wp2
  go_ret
  exact ⟨rfl, rfl⟩

theorem does_t (s : ByteArray) (o : BinOp) (hs : opOf s.toList = some o) (a b c : Nat) (h : doN o a b = c) (w : World) : Calls Tryd.prog 17 #[.string s, .int .u64 a, .int .u64 b, .int .u64 c] w fun e w' => e = .returned (.bool true) ∧ Grown w w' := by
  have := does_c s o hs a b c w
  rw [show decide (doN o a b = c) = true from by simp [h]] at this
  exact this

theorem e1 : doN .add 4607182418800017408 4607182418800017408 = 4611686018427387904 := by kernel_rfl
theorem e2 : doN .quo 4607182418800017408 9223372036854775808 = 18442240474082181120 := by kernel_rfl
theorem e3 : doN .quo 0 0 = 9221120237041090560 := by kernel_rfl
theorem e4 : equal 9223372036854775808 0 = true := by kernel_rfl
theorem e5 : ord 9223372036854775808 0 = -1 := by kernel_rfl
theorem e6 : floatOfInt .f64 1 = 4607182418800017408 := by kernel_rfl

theorem awake_c (w : World) : Calls Tryd.prog 7 #[] w fun e w' => e = .returned (.bool true) ∧ Grown w w' := by
  have H1 := Lib.hid (fun w => does_t ⟨#[43]⟩ .add (by kernel_rfl) 4607182418800017408 4607182418800017408 4611686018427387904 e1 w)
  have H2 := Lib.hid (fun w => does_t ⟨#[47]⟩ .quo (by kernel_rfl) 4607182418800017408 9223372036854775808 18442240474082181120 e2 w)
  have H3 := Lib.hid (fun w => does_t ⟨#[47]⟩ .quo (by kernel_rfl) 0 0 9221120237041090560 e3 w)
  have H4 := Lib.hid (fun w => equalR_c 9223372036854775808 0 w)
  rw [e4] at H4
  have H5 := Lib.hid (fun w => ordR_c 9223372036854775808 0 (by decide) (by decide) w)
  rw [e5] at H5
  have H6 := Lib.hid (fun w => ofInt_c 1 w)
  rw [e6] at H6
  go_enter Tryd.func7, Tryd.ntmps7
  go_wp2_with fail
  refine (H1.out _).mono ?_
  rintro e w1 ⟨rfl, g1⟩
  go_wp2_with fail
  refine (H2.out _).mono ?_
  rintro e w2 ⟨rfl, g2⟩
  go_wp2_with fail
  refine (H3.out _).mono ?_
  rintro e w3 ⟨rfl, g3⟩
  go_wp2_with fail
  refine (H4.out _).mono ?_
  rintro e w4 ⟨rfl, rfl⟩
  go_wp2_with fail
  refine (H5.out _).mono ?_
  rintro e w5 ⟨rfl, g5⟩
  go_wp2_with fail
  refine (H6.out _).mono ?_
  rintro e w6 ⟨rfl, rfl⟩
  go_wp2_with fail
  go_ret
  exact ⟨rfl, grown_trans (grown_trans (grown_trans g1 g2) g3) g5⟩
end Go.Proofs.YtpoaokkgjgkfcaaDoor
