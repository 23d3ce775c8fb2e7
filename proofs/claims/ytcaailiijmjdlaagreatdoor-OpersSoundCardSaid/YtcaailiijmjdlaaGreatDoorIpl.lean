/- Plain facts: what wraps around to 64 bits with a sign and without, and what an operation of two integers comes to. No program is named here. -/
import Derived.Test.YtcaailiijmjdlaaGreatDoorRows
import Derived.WalkKit
import Derived.ProofKit
set_option linter.unusedSimpArgs false
set_option linter.unusedVariables false
namespace Go.Proofs.YtcaailiijmjdlaaGreatDoor
open Go.RowKit

theorem w_mod {x y : Int} (h : x % 18446744073709551616 = y % 18446744073709551616) : wrap64 x = wrap64 y := by
  unfold wrap64; omega
theorem u_mod (z : Int) : IntKind.u64.wrap z = z % 18446744073709551616 := by
  unfold IntKind.wrap; simp [IntKind.bits, IntKind.signed]
theorem w_mod' (z : Int) : wrap64 z % 18446744073709551616 = z % 18446744073709551616 := by unfold wrap64; omega
theorem u_w (z : Int) : wrap64 (IntKind.u64.wrap z) = wrap64 z := by
  apply w_mod; rw [u_mod]; omega
theorem add_w (a b : Int) : wrap64 (IntKind.u64.wrap (IntKind.u64.wrap a + IntKind.u64.wrap b)) = wrap64 (a + b) := by
  rw [u_w]; apply w_mod; rw [u_mod, u_mod]; omega
theorem sub_w (a b : Int) : wrap64 (IntKind.u64.wrap (IntKind.u64.wrap a - IntKind.u64.wrap b)) = wrap64 (a - b) := by
  rw [u_w]; apply w_mod; rw [u_mod, u_mod]; omega
theorem mul_w (a b : Int) : wrap64 (IntKind.u64.wrap (IntKind.u64.wrap a * IntKind.u64.wrap b)) = wrap64 (a * b) := by
  rw [u_w]; apply w_mod; rw [u_mod, u_mod, ← Int.mul_emod]
theorem neg_w (a : Int) : wrap64 (IntKind.u64.wrap (-IntKind.u64.wrap a)) = wrap64 (-a) := by
  rw [u_w]; apply w_mod; rw [u_mod]; omega
theorem neg_u (a : Int) (h1 : -9223372036854775808 ≤ a) (h : a < 0) : IntKind.u64.wrap (-IntKind.u64.wrap a) = (a.natAbs : Int) := by
  rw [u_mod, u_mod]; omega
theorem w_in {n : Int} (h1 : -9223372036854775808 ≤ n) (h2 : n ≤ 9223372036854775807) : wrap64 n = n := by unfold wrap64; omega
theorem w_bd (n : Int) : -9223372036854775808 ≤ wrap64 n ∧ wrap64 n ≤ 9223372036854775807 := by unfold wrap64; omega
theorem w_w (n : Int) : wrap64 (wrap64 n) = wrap64 n := w_in (w_bd n).1 (w_bd n).2

/-- The quotient and the rest of two integers are those of the two without a sign, each with the sign that it must have. -/
theorem tdiv_abs (a b : Int) : a.tdiv b = if (a < 0) ↔ (b < 0) then ((a.natAbs / b.natAbs : Nat) : Int) else -((a.natAbs / b.natAbs : Nat) : Int) := by
  rcases Int.natAbs_eq a with ha | ha <;> rcases Int.natAbs_eq b with hb | hb
  · generalize a.natAbs = x at *; generalize b.natAbs = y at *; subst ha; subst hb
    rw [if_pos (by omega)]; exact (Int.ofNat_tdiv x y).symm
  · generalize a.natAbs = x at *; generalize b.natAbs = y at *; subst ha; subst hb
    rw [Int.tdiv_neg, ← Int.ofNat_tdiv]
    by_cases hy : y = 0
    · subst hy; simp
    · rw [if_neg (by omega)]
  · generalize a.natAbs = x at *; generalize b.natAbs = y at *; subst ha; subst hb
    rw [Int.neg_tdiv, ← Int.ofNat_tdiv]
    by_cases hx : x = 0
    · subst hx; simp
    · rw [if_neg (by omega)]
  · generalize a.natAbs = x at *; generalize b.natAbs = y at *; subst ha; subst hb
    rw [Int.neg_tdiv, Int.tdiv_neg, ← Int.ofNat_tdiv, Int.neg_neg]
    by_cases hx : x = 0
    · subst hx; simp
    · by_cases hy : y = 0
      · subst hy; simp
      · rw [if_pos (by omega)]

theorem tmod_abs (a b : Int) : a.tmod b = if a < 0 then -((a.natAbs % b.natAbs : Nat) : Int) else ((a.natAbs % b.natAbs : Nat) : Int) := by
  have key : ∀ x : Nat, ((x : Int)).tmod b = ((x % b.natAbs : Nat) : Int) := by
    intro x
    rcases Int.natAbs_eq b with hb | hb
    · generalize b.natAbs = y at *; subst hb; exact (Int.ofNat_tmod x y).symm
    · generalize b.natAbs = y at *; subst hb; rw [Int.tmod_neg]; exact (Int.ofNat_tmod x y).symm
  rcases Int.natAbs_eq a with ha | ha
  · generalize a.natAbs = x at *; subst ha
    rw [if_neg (by omega)]; exact key x
  · generalize a.natAbs = x at *; subst ha
    rw [Int.neg_tmod, key]
    by_cases hx : x = 0
    · subst hx; simp
    · rw [if_pos (by omega)]

/-- What an operation comes to, by its sign's bytes; 0 where it comes to nothing. -/
def doV (l : List UInt8) (a b : Int) : Int :=
  if l == [43] then wrap64 (a + b) else if l == [45] then wrap64 (a - b) else if l == [42] then wrap64 (a * b) else
    if l == [47] then (if b = 0 then 0 else wrap64 (a.tdiv b)) else if l == [37] then (if b = 0 then 0 else a.tmod b) else 0
/-- Its fault, or 0. -/
def doE (l : List UInt8) (b : Int) : Int :=
  if l == [43] then 0 else if l == [45] then 0 else if l == [42] then 0 else if l == [47] then (if b = 0 then 3 else 0) else if l == [37] then (if b = 0 then 3 else 0) else 2

theorem op_cases (s : ByteArray) : s = ⟨#[43]⟩ ∨ s = ⟨#[45]⟩ ∨ s = ⟨#[42]⟩ ∨ s = ⟨#[47]⟩ ∨ s = ⟨#[37]⟩ ∨
    ((s.toList == [43]) = false ∧ (s.toList == [45]) = false ∧ (s.toList == [42]) = false ∧ (s.toList == [47]) = false ∧ (s.toList == [37]) = false) := by
  have e : ∀ c : UInt8, s.toList = [c] → s = ⟨#[c]⟩ := by
    intro c h
    apply ByteArray.ext
    apply Array.toList_inj.1
    rw [← h]
    show s.data.toList = s.toList.toArray.toList
    rw [ByteArray.toList_eq s]
  by_cases h1 : s.toList = [43]
  · exact Or.inl (e _ h1)
  by_cases h2 : s.toList = [45]
  · exact Or.inr (Or.inl (e _ h2))
  by_cases h3 : s.toList = [42]
  · exact Or.inr (Or.inr (Or.inl (e _ h3)))
  by_cases h4 : s.toList = [47]
  · exact Or.inr (Or.inr (Or.inr (Or.inl (e _ h4))))
  by_cases h5 : s.toList = [37]
  · exact Or.inr (Or.inr (Or.inr (Or.inr (Or.inl (e _ h5)))))
  refine Or.inr (Or.inr (Or.inr (Or.inr (Or.inr ?_))))
  simp [h1, h2, h3, h4, h5]
end Go.Proofs.YtcaailiijmjdlaaGreatDoor
