/- Contracts of ToInt, and of the law's helper that asks it: for words below 2^64; the world is as it was. -/
import Derived.Test.YtpoaokkgjgkfcaaDoorAwk
import Derived.Test.YtpoaokkgjgkfcaaDoorFli
set_option linter.unusedSimpArgs false
set_option linter.unusedVariables false
namespace Go.Proofs.YtpoaokkgjgkfcaaDoor
open Go.ChangeShapes Go.WideShapes Go.ChangeAt Go.RowKit Flo

theorem order_geq (a b : Nat) : (Ieee.double.order a b == some .gt || Ieee.double.order a b == some .eq) = (!isN a && (!isN b && decide (key b ≤ key a))) := by
  cases ha : isN a
  · cases hb : isN b
    · rw [order_key a b ha hb]
      rw [Bool.eq_iff_iff]; simp [Int.compare_eq_gt, Int.compare_eq_eq]; omega
    · rw [order_nan a b (Or.inr hb)]; rfl
  · rw [order_nan a b (Or.inl ha)]; rfl

theorem k_lo : key 14114281232179134464 = -4890909195324358656 := by decide
theorem k_hi : key 4890909195324358656 = 4890909195324358656 := by decide
theorem n_lo : isN 14114281232179134464 = false := by decide
theorem n_hi : isN 4890909195324358656 = false := by decide

theorem in_cases (a : Nat) : (inR a = true ∧ (FloatKind.f64.format.order a 14114281232179134464 == some .gt || FloatKind.f64.format.order a 14114281232179134464 == some .eq) = true ∧ (FloatKind.f64.format.order a 4890909195324358656 == some .lt) = true) ∨
    (inR a = false ∧ (FloatKind.f64.format.order a 14114281232179134464 == some .gt || FloatKind.f64.format.order a 14114281232179134464 == some .eq) = true ∧ (FloatKind.f64.format.order a 4890909195324358656 == some .lt) = false) ∨
    (inR a = false ∧ (FloatKind.f64.format.order a 14114281232179134464 == some .gt || FloatKind.f64.format.order a 14114281232179134464 == some .eq) = false) := by
  have g := order_geq a 14114281232179134464
  have l := order_less a 4890909195324358656
  have g' : (FloatKind.f64.format.order a 14114281232179134464 == some .gt || FloatKind.f64.format.order a 14114281232179134464 == some .eq) = _ := g
  have l' : (FloatKind.f64.format.order a 4890909195324358656 == some .lt) = _ := l
  rw [g', l']
  unfold less inR
  rw [k_lo, k_hi, n_lo, n_hi]
  cases isN a <;> simp
  by_cases h : -4890909195324358656 ≤ key a <;> by_cases h2 : key a < 4890909195324358656 <;> simp [h, h2] <;> omega

theorem toIntR_c (a : Nat) (h : a < 18446744073709551616) (w : World) : Calls Tryd.prog 8 #[.int .u64 a] w fun e w' => e = .returned (if inR a then .tuple #[.int .i64 (tv a), .int .i64 0] else .tuple #[.int .i64 0, .int .i64 3]) ∧ w = w' := by
  have hk := k_from
  rcases in_cases a with ⟨h1, h2, h3⟩ | ⟨h1, h2, h3⟩ | ⟨h1, h2⟩
  · rw [if_pos h1]
    have hc : ∀ w, (convert 41 3 (.float .f64 a)).run Tryd.prog w = .ok (.int .i64 (tv a)) w := fun w => run_convert_float_int w 41 3 .f64 .i64 a (tv a) (by kernel_rfl) (by kernel_rfl) (val_in a h1)
    clear h1 h
    go_enter Tryd.func8, Tryd.ntmps8
    go_wp2
    go_ret2
    exact ⟨rfl, rfl⟩
  · rw [if_neg (by rw [h1]; decide)]
    clear h1 h
    go_enter Tryd.func8, Tryd.ntmps8
    go_wp2
    go_ret2
    exact ⟨rfl, rfl⟩
  · rw [if_neg (by rw [h1]; decide)]
    clear h1 h
    go_enter Tryd.func8, Tryd.ntmps8
    go_wp2
    go_ret2
    exact ⟨rfl, rfl⟩

theorem toIntS_c (a : Nat) (h : a < 18446744073709551616) (w : World) : Calls Tryd.prog 9 #[.int .u64 a] w fun e w' => e = .returned (if inR a then .tuple #[.int .i64 (tv a), .int .i64 0] else .tuple #[.int .i64 0, .int .i64 3]) ∧ w = w' := by
  rcases in_cases a with ⟨h1, h2, h3⟩ | ⟨h1, h2, h3⟩ | ⟨h1, h2⟩
  · rw [if_pos h1]
    have hc : ∀ w, (convert 41 3 (.float .f64 a)).run Tryd.prog w = .ok (.int .i64 (tv a)) w := fun w => run_convert_float_int w 41 3 .f64 .i64 a (tv a) (by kernel_rfl) (by kernel_rfl) (val_in a h1)
    clear h1 h
    go_enter Tryd.func9, Tryd.ntmps9
    go_wp2_with (go_at_call 29; refine (float_c _ _).mono ?_; rintro e w' ⟨rfl, rfl⟩)
    go_ret2
    exact ⟨rfl, rfl⟩
  · rw [if_neg (by rw [h1]; decide)]
    clear h1 h
    go_enter Tryd.func9, Tryd.ntmps9
    go_wp2_with (go_at_call 29; refine (float_c _ _).mono ?_; rintro e w' ⟨rfl, rfl⟩)
    go_ret2
    exact ⟨rfl, rfl⟩
  · rw [if_neg (by rw [h1]; decide)]
    clear h1 h
    go_enter Tryd.func9, Tryd.ntmps9
    go_wp2_with (go_at_call 29; refine (float_c _ _).mono ?_; rintro e w' ⟨rfl, rfl⟩)
    go_ret2
    exact ⟨rfl, rfl⟩

theorem ofIntS_c (n : Int) (h1 : -9223372036854775808 ≤ n) (h2 : n ≤ 9223372036854775807) (w : World) : Calls Tryd.prog 13 #[.int .i64 n] w fun e w' => e = .returned (.int .u64 (floatOfInt .f64 n : Nat)) ∧ w = w' := by
  have HB := Lib.hid (fun w => bits_c (floatOfInt .f64 n) (ofInt_lt n h1 h2) w)
  rw [cn_not (ofInt_notN n h1 h2)] at HB
  go_enter Tryd.func13, Tryd.ntmps13
  go_wp2_with (go_at_call 33; refine (HB.out _).mono ?_; rintro e w' ⟨rfl, rfl⟩)
  go_ret
  exact ⟨rfl, rfl⟩

/-- The law's helper that asks a whole number back: true where it comes back. -/
theorem to_c (n : Int) (h : n.natAbs ≤ 9007199254740992) (w : World) : Calls Tryd.prog 21 #[.int .u64 (floatOfInt .f64 n : Nat), .int .i64 n, .int .i64 0] w fun e w' => e = .returned (.bool true) ∧ w = w' := by
  obtain ⟨h1, h2⟩ := inR_ofInt n h
  have hl := (sv_ofInt n h).2.2
  have H := Lib.hid (fun w => toIntR_c (floatOfInt .f64 n) hl w)
  rw [h1, h2, if_pos rfl] at H
  clear h1 h2 hl h
  generalize floatOfInt .f64 n = x at *
  go_enter Tryd.func21, Tryd.ntmps21
  go_wp2_with (go_at_call 8; refine (H.out _).mono ?_; rintro e w' ⟨rfl, rfl⟩)
  go_ret
  exact ⟨rfl, rfl⟩

theorem to_yes (a : Nat) (n : Int) (h : a < 18446744073709551616) (h1 : inR a = true) (h2 : tv a = n) (w : World) : Calls Tryd.prog 21 #[.int .u64 a, .int .i64 n, .int .i64 0] w fun e w' => e = .returned (.bool true) ∧ w = w' := by
  have H := Lib.hid (fun w => toIntR_c a h w)
  rw [h1, h2, if_pos rfl] at H
  clear h1 h2 h
  go_enter Tryd.func21, Tryd.ntmps21
  go_wp2_with (go_at_call 8; refine (H.out _).mono ?_; rintro e w' ⟨rfl, rfl⟩)
  go_ret
  exact ⟨rfl, rfl⟩

theorem to_no (a : Nat) (h : a < 18446744073709551616) (h1 : inR a = false) (w : World) : Calls Tryd.prog 21 #[.int .u64 a, .int .i64 0, .int .i64 3] w fun e w' => e = .returned (.bool true) ∧ w = w' := by
  have H := Lib.hid (fun w => toIntR_c a h w)
  rw [h1, if_neg (by decide)] at H
  clear h1 h
  go_enter Tryd.func21, Tryd.ntmps21
  go_wp2_with (go_at_call 8; refine (H.out _).mono ?_; rintro e w' ⟨rfl, rfl⟩)
  go_ret
  exact ⟨rfl, rfl⟩
end Go.Proofs.YtpoaokkgjgkfcaaDoor
