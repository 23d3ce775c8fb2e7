/- Contracts of ToInt, and of the law's helper that asks it: for words below 2^64; the world is as it was. -/
import Derived.Test.YtcaailiijmjdlaaDoorRea
import Derived.Test.YtcaailiijmjdlaaDoorFli
set_option linter.unusedSimpArgs false
set_option linter.unusedVariables false
namespace Go.Proofs.YtcaailiijmjdlaaDoor
open Go.ChangeShapes Go.WideShapes Go.ChangeAt Go.RowKit Flo

theorem order_geq (a b : Nat) : (Ieee.double.order a b == some .gt || Ieee.double.order a b == some .eq) = (!isN a && (!isN b && decide (key b ≤ key a))) := by
  cases ha : isN a
  · cases hb : isN b
    · rw [order_key a b ha hb]
      rw [Bool.eq_iff_iff]; simp [Int.compare_eq_gt, Int.compare_eq_eq]; omega
    · rw [order_nan a b (Or.inr hb)]; rfl
  · rw [order_nan a b (Or.inl ha)]; rfl

theorem k_lo : key 14114281232179134464 = -4890909195324358656 := by decide
theorem k_hi : key 4890909195324358656 = 4890909195324358656 := by decide
theorem n_lo : isN 14114281232179134464 = false := by decide
theorem n_hi : isN 4890909195324358656 = false := by decide

theorem in_cases (a : Nat) : (inR a = true ∧ (FloatKind.f64.format.order a 14114281232179134464 == some .gt || FloatKind.f64.format.order a 14114281232179134464 == some .eq) = true ∧ (FloatKind.f64.format.order a 4890909195324358656 == some .lt) = true) ∨
    (inR a = false ∧ (FloatKind.f64.format.order a 14114281232179134464 == some .gt || FloatKind.f64.format.order a 14114281232179134464 == some .eq) = true ∧ (FloatKind.f64.format.order a 4890909195324358656 == some .lt) = false) ∨
    (inR a = false ∧ (FloatKind.f64.format.order a 14114281232179134464 == some .gt || FloatKind.f64.format.order a 14114281232179134464 == some .eq) = false) := by
  have g := order_geq a 14114281232179134464
  have l := order_less a 4890909195324358656
  have g' : (FloatKind.f64.format.order a 14114281232179134464 == some .gt || FloatKind.f64.format.order a 14114281232179134464 == some .eq) = _ := g
  have l' : (FloatKind.f64.format.order a 4890909195324358656 == some .lt) = _ := l
  rw [g', l']
  unfold less inR
  rw [k_lo, k_hi, n_lo, n_hi]
  cases isN a <;> simp
  by_cases h : -4890909195324358656 ≤ key a <;> by_cases h2 : key a < 4890909195324358656 <;> simp [h, h2] <;> omega

end Go.Proofs.YtcaailiijmjdlaaDoor