/- Contracts of Do and Neg, in ints and in the document's answers, at whatever operation and numbers. What was in the world stays as it was. -/
import Derived.Test.YtcaailiijmjdlaaDoorIdo
import Derived.Test.YtcaailiijmjdlaaDoorIpl
set_option linter.unusedSimpArgs false
set_option linter.unusedVariables false
namespace Go.Proofs.YtcaailiijmjdlaaDoor
open Go.ChangeShapes Go.WideShapes Go.ChangeAt Go.RowKit

theorem doR_c (s : ByteArray) (a b : Int) (hs : s.size ≤ maxLen) (w : World) : Calls Tryd.prog 45 #[.string s, .int .i64 a, .int .i64 b] w fun e w' => e = .returned (.tuple #[.int .i64 (doV s.data.toList a b), .int .i64 (doE s.data.toList b)]) ∧ Kept w w' := by
  rcases op_cases s with rfl | rfl | rfl | rfl | rfl | ⟨h1, h2, h3, h4, h5⟩
  · exact doR_add a b w
  · exact doR_sub a b w
  · exact doR_mul a b w
  · by_cases hb : b = 0
    · subst hb; exact doR_quo0 a w
    · have e1 : doV (⟨#[47]⟩ : ByteArray).data.toList a b = wrap64 (a.tdiv b) := by show (if b = 0 then 0 else wrap64 (a.tdiv b)) = _; rw [if_neg hb]
      have e2 : doE (⟨#[47]⟩ : ByteArray).data.toList b = 0 := by show (if b = 0 then 3 else 0) = (0 : Int); rw [if_neg hb]
      rw [e1, e2]; exact doR_quo a b hb w
  · by_cases hb : b = 0
    · subst hb; exact doR_rem0 a w
    · have e1 : doV (⟨#[37]⟩ : ByteArray).data.toList a b = a.tmod b := by show (if b = 0 then 0 else a.tmod b) = _; rw [if_neg hb]
      have e2 : doE (⟨#[37]⟩ : ByteArray).data.toList b = 0 := by show (if b = 0 then 3 else 0) = (0 : Int); rw [if_neg hb]
      rw [e1, e2]; exact doR_rem a b hb w
  · rw [ByteArray.toList_eq s] at h1 h2 h3 h4 h5
    have e1 : doV s.data.toList a b = 0 := by unfold doV; simp only [h1, h2, h3, h4, h5]; rfl
    have e2 : doE s.data.toList b = 2 := by unfold doE; simp only [h1, h2, h3, h4, h5]; rfl
    rw [e1, e2]
    obtain ⟨k1, k2⟩ := ops_none h1 h2 h3 h4 h5
    exact doR_none s a b w hs k1 k2

theorem iret_i64 {a b : Int} (h : a = b) : Ending.returned (.int .i64 a) = .returned (.int .i64 b) := by rw [h]
theorem iret_u64 {a b : Int} (h : a = b) : Ending.returned (.int .u64 a) = .returned (.int .u64 b) := by rw [h]
theorem ret_2 {a b c : Int} (h : a = b) : Ending.returned (.tuple #[.int .i64 a, .int .i64 c]) = .returned (.tuple #[.int .i64 b, .int .i64 c]) := by rw [h]

theorem kept_drew (w : World) (n : Nat) : Kept w (w.drewN n) := ⟨rfl, rfl, Nat.le_refl _, fun _ _ => rfl⟩

end Go.Proofs.YtcaailiijmjdlaaDoor