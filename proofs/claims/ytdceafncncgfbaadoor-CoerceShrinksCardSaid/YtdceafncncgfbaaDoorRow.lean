/- A list whose things lie one behind the other, k cells each. No program is named here. -/
import Derived.Test.YtdceafncncgfbaaDoorBlk
set_option linter.unusedSimpArgs false
set_option linter.unusedVariables false
namespace Go.Proofs.YtdceafncncgfbaaDoor
open Go.ChangeShapes Go.WideShapes Go.ChangeAt Go.RowKit

/-- A list whose things lie one behind the other, k cells each. -/
def Row {α : Type} (k : Nat) (R : World → Nat → Nat → α → Prop) (w : World) (v : Value) (l : List α) : Prop :=
  ∃ a c, v = .slice a l.length c ∧ l.length ≤ c ∧ c ≤ maxLen ∧ ∀ i x, l[i]? = some x → ∃ b o, a = some ⟨b, o, none⟩ ∧ R w b (o + i * k) x

theorem Row.mono {α : Type} {k : Nat} {R : World → Nat → Nat → α → Prop} {w w' : World} {v : Value} {l : List α} (h : Row k R w v l) (hR : ∀ b o x, R w b o x → R w' b o x) : Row k R w' v l := by
  obtain ⟨a, c, e, h1, h2, h3⟩ := h
  exact ⟨a, c, e, h1, h2, fun i x hx => by obtain ⟨b, o, e, r⟩ := h3 i x hx; exact ⟨b, o, e, hR _ _ _ r⟩⟩
theorem Row.take {α : Type} {k : Nat} {R : World → Nat → Nat → α → Prop} {w : World} {a : Option Addr} {c : Nat} {l : List α} (h : Row k R w (.slice a l.length c) l) {i : Nat} (hi : i ≤ l.length) : Row k R w (.slice a i c) (l.take i) := by
  obtain ⟨a', c', e, h1, h2, h3⟩ := h
  injection e with e1 e2 e3
  subst e1 e3
  refine ⟨a, c, by simp [Nat.min_eq_left hi], by simp; omega, h2, fun j x hx => h3 j x ?_⟩
  rw [List.getElem?_take] at hx
  split at hx
  · exact hx
  · cases hx
theorem Row.nil {α : Type} {k : Nat} {R : World → Nat → Nat → α → Prop} {w : World} : Row k R w (.slice none 0 0) [] := ⟨none, 0, rfl, Nat.le_refl _, Nat.zero_le _, fun i x h => by simp at h⟩
theorem Row.len {α : Type} {k : Nat} {R : World → Nat → Nat → α → Prop} {w : World} {v : Value} {l : List α} (h : Row k R w v l) : l.length ≤ maxLen := by
  obtain ⟨a, c, _, h1, h2, _⟩ := h
  omega

end Go.Proofs.YtdceafncncgfbaaDoor
