/- Contracts of ToInt, and of the law's helper that asks it: for words below 2^64; the world is as it was. -/
import Derived.Test.YtcaailiijmjdlaaGreatDoorRea
import Derived.Test.YtcaailiijmjdlaaGreatDoorFli
set_option linter.unusedSimpArgs false
set_option linter.unusedVariables false
namespace Go.Proofs.YtcaailiijmjdlaaGreatDoor
open Go.ChangeShapes Go.WideShapes Go.ChangeAt Go.RowKit Flo

theorem order_geq (a b : Nat) : (Ieee.double.order a b == some .gt || Ieee.double.order a b == some .eq) = (!isN a && (!isN b && decide (key b ≤ key a))) := by
  cases ha : isN a
  · cases hb : isN b
    · rw [order_key a b ha hb]
      rw [Bool.eq_iff_iff]; simp [Int.compare_eq_gt, Int.compare_eq_eq]; omega
    · rw [order_nan a b (Or.inr hb)]; rfl
  · rw [order_nan a b (Or.inl ha)]; rfl

theorem k_lo : key 14114281232179134464 = -4890909195324358656 := by decide
theorem k_hi : key 4890909195324358656 = 4890909195324358656 := by decide
theorem n_lo : isN 14114281232179134464 = false := by decide
theorem n_hi : isN 4890909195324358656 = false := by decide

theorem in_cases (a : Nat) : (inR a = true ∧ (FloatKind.f64.format.order a 14114281232179134464 == some .gt || FloatKind.f64.format.order a 14114281232179134464 == some .eq) = true ∧ (FloatKind.f64.format.order a 4890909195324358656 == some .lt) = true) ∨
    (inR a = false ∧ (FloatKind.f64.format.order a 14114281232179134464 == some .gt || FloatKind.f64.format.order a 14114281232179134464 == some .eq) = true ∧ (FloatKind.f64.format.order a 4890909195324358656 == some .lt) = false) ∨
    (inR a = false ∧ (FloatKind.f64.format.order a 14114281232179134464 == some .gt || FloatKind.f64.format.order a 14114281232179134464 == some .eq) = false) := by
  have g := order_geq a 14114281232179134464
  have l := order_less a 4890909195324358656
  have g' : (FloatKind.f64.format.order a 14114281232179134464 == some .gt || FloatKind.f64.format.order a 14114281232179134464 == some .eq) = _ := g
  have l' : (FloatKind.f64.format.order a 4890909195324358656 == some .lt) = _ := l
  rw [g', l']
  unfold less inR
  rw [k_lo, k_hi, n_lo, n_hi]
  cases isN a <;> simp
  by_cases h : -4890909195324358656 ≤ key a <;> by_cases h2 : key a < 4890909195324358656 <;> simp [h, h2] <;> omega

theorem toIntR_c (a : Nat) (h : a < 18446744073709551616) (w : World) : Calls Tryz.prog 143 #[.int .u64 a] w fun e w' => e = .returned (if inR a then .tuple #[.int .i64 (tv a), .int .i64 0] else .tuple #[.int .i64 0, .int .i64 3]) ∧ w = w' := by
  have hk := k_from
  rcases in_cases a with ⟨h1, h2, h3⟩ | ⟨h1, h2, h3⟩ | ⟨h1, h2⟩
  · rw [if_pos h1]
    have hc : ∀ w, (convert 88 3 (.float .f64 a)).run Tryz.prog w = .ok (.int .i64 (tv a)) w := fun w => run_convert_float_int w 88 3 .f64 .i64 a (tv a) (by kernel_rfl) (by kernel_rfl) (val_in a h1)
    clear h1 h
    go_enter Tryz.func143, Tryz.ntmps143
    go_wp2
    go_ret2
    exact ⟨rfl, rfl⟩
  · rw [if_neg (by rw [h1]; decide)]
    clear h1 h
    go_enter Tryz.func143, Tryz.ntmps143
    go_wp2
    go_ret2
    exact ⟨rfl, rfl⟩
  · rw [if_neg (by rw [h1]; decide)]
    clear h1 h
    go_enter Tryz.func143, Tryz.ntmps143
    go_wp2
    go_ret2
    exact ⟨rfl, rfl⟩

theorem toIntS_c (a : Nat) (h : a < 18446744073709551616) (w : World) : Calls Tryz.prog 64 #[.int .u64 a] w fun e w' => e = .returned (if inR a then .tuple #[.int .i64 (tv a), .int .i64 0] else .tuple #[.int .i64 0, .int .i64 3]) ∧ w = w' := by
  rcases in_cases a with ⟨h1, h2, h3⟩ | ⟨h1, h2, h3⟩ | ⟨h1, h2⟩
  · rw [if_pos h1]
    have hc : ∀ w, (convert 88 3 (.float .f64 a)).run Tryz.prog w = .ok (.int .i64 (tv a)) w := fun w => run_convert_float_int w 88 3 .f64 .i64 a (tv a) (by kernel_rfl) (by kernel_rfl) (val_in a h1)
    clear h1 h
    go_enter Tryz.func64, Tryz.ntmps64
    go_wp2_with (go_at_call 103; refine (float_c _ _).mono ?_; rintro e w' ⟨rfl, rfl⟩)
    go_ret2
    exact ⟨rfl, rfl⟩
  · rw [if_neg (by rw [h1]; decide)]
    clear h1 h
    go_enter Tryz.func64, Tryz.ntmps64
    go_wp2_with (go_at_call 103; refine (float_c _ _).mono ?_; rintro e w' ⟨rfl, rfl⟩)
    go_ret2
    exact ⟨rfl, rfl⟩
  · rw [if_neg (by rw [h1]; decide)]
    clear h1 h
    go_enter Tryz.func64, Tryz.ntmps64
    go_wp2_with (go_at_call 103; refine (float_c _ _).mono ?_; rintro e w' ⟨rfl, rfl⟩)
    go_ret2
    exact ⟨rfl, rfl⟩

theorem ofIntS_c (n : Int) (h1 : -9223372036854775808 ≤ n) (h2 : n ≤ 9223372036854775807) (w : World) : Calls Tryz.prog 63 #[.int .i64 n] w fun e w' => e = .returned (.int .u64 (floatOfInt .f64 n : Nat)) ∧ w = w' := by
  have HB := Lib.hid (fun w => bits_c (floatOfInt .f64 n) (ofInt_lt n h1 h2) w)
  rw [cn_not (ofInt_notN n h1 h2)] at HB
  go_enter Tryz.func63, Tryz.ntmps63
  go_wp2_with (go_at_call 104; refine (HB.out _).mono ?_; rintro e w' ⟨rfl, rfl⟩)
  go_ret
  exact ⟨rfl, rfl⟩

end Go.Proofs.YtcaailiijmjdlaaGreatDoor