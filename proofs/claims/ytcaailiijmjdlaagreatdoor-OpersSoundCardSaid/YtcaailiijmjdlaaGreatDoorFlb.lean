/- Plain facts: masks of 64 bits as remainders; the one NaN; what two words come to by one of the four operations, with the one NaN in the place of any; which rank a word has. They stand for words below 2^64, as each theorem says. -/
import Derived.Test.YtcaailiijmjdlaaGreatDoorFlo
import Derived.RowKit3
set_option linter.unusedSimpArgs false
set_option linter.unusedVariables false
namespace Go.Proofs.YtcaailiijmjdlaaGreatDoor
namespace Flo
open Go.RowKit

theorem and_low (a : Nat) (h : a < 18446744073709551616) : bits .and .u64 (a : Int) 9223372036854775807 = (low a : Int) := by
  have := u64_and_nat a 9223372036854775807 h (by decide)
  rw [Nat.and_two_pow_sub_one_eq_mod a 63] at this
  exact this
theorem andNot_low (a : Nat) (h : a < 18446744073709551616) : bits .andNot .u64 (a : Int) 9223372036854775808 = (low a : Int) := by
  have := u64_andNot_nat a 9223372036854775808 h (by decide)
  rw [show 18446744073709551615 - 9223372036854775808 = 2 ^ 63 - 1 from by decide, Nat.and_two_pow_sub_one_eq_mod a 63] at this
  exact this
def flip (a : Nat) : Nat := if a < 9223372036854775808 then a + 9223372036854775808 else a - 9223372036854775808
theorem xor_top (a : Nat) (h : a < 18446744073709551616) : a ^^^ 9223372036854775808 = flip a := by
  have e : a = a / 2 ^ 63 * 2 ^ 63 + a % 2 ^ 63 := by omega
  have h1 : ∀ b, b < 2 ^ 63 → b ^^^ 2 ^ 63 = b + 2 ^ 63 := by
    intro b hb
    have := Nat.two_pow_add_eq_or_of_lt (i := 63) hb 1
    apply Nat.eq_of_testBit_eq; intro i
    rw [Nat.add_comm, show 2 ^ 63 + b = 2 ^ 63 * 1 + b from by omega, this]
    rw [Nat.testBit_xor, Nat.testBit_or]
    by_cases hi : i = 63
    · subst hi; rw [Nat.testBit_lt_two_pow hb]; simp
    · rw [Nat.mul_one, Nat.testBit_two_pow_of_ne (fun x => hi x.symm)]; simp
  unfold flip
  split
  · exact h1 a (by omega)
  · have e2 : a = (a - 9223372036854775808) + 2 ^ 63 := by omega
    have h2 := h1 (a - 9223372036854775808) (by omega)
    have : a = (a - 9223372036854775808) ^^^ 2 ^ 63 := by rw [h2]; exact e2
    rw [this, show (9223372036854775808 : Nat) = 2 ^ 63 from by decide, Nat.xor_assoc, Nat.xor_self, Nat.xor_zero]
    rw [h2]; omega
theorem xor_flip (a : Nat) (h : a < 18446744073709551616) : bits .xor .u64 (a : Int) 9223372036854775808 = (flip a : Int) := by
  have := u64_xor_nat a 9223372036854775808 h (by decide)
  rw [xor_top a h] at this
  exact this
theorem and_sign (a : Nat) (h : a < 18446744073709551616) : bits .and .u64 (a : Int) 9223372036854775808 = if a < 9223372036854775808 then 0 else 9223372036854775808 := by
  have := u64_and_nat a 9223372036854775808 h (by decide)
  rw [nat_hi64_63] at this
  refine Eq.trans this ?_
  split <;> omega

theorem flip_lt {a : Nat} (h : a < 18446744073709551616) : flip a < 18446744073709551616 := by unfold flip; split <;> omega
theorem low_flip (a : Nat) : low (flip a) = low a := by unfold low flip; split <;> omega
theorem isN_flip (a : Nat) : isN (flip a) = isN a := by unfold isN; rw [low_flip]
theorem flip_flip {a : Nat} (h : a < 18446744073709551616) : flip (flip a) = a := by
  unfold flip; split <;> split <;> omega
theorem cn_lt {a : Nat} (h : a < 18446744073709551616) : cn a < 18446744073709551616 := by unfold cn nan; split <;> omega
theorem isN_nan : isN nan = true := by decide
theorem cn_cn (a : Nat) : cn (cn a) = cn a := by
  unfold cn; by_cases h : isN a = true <;> simp [h, isN_nan]
theorem isN_cn (a : Nat) : isN (cn a) = isN a := by
  unfold cn; by_cases h : isN a = true <;> simp [h, isN_nan]
theorem cn_not {a : Nat} (h : isN a = false) : cn a = a := by unfold cn; rw [if_neg (by simp [h])]
theorem cn_yes {a : Nat} (h : isN a = true) : cn a = nan := by unfold cn; rw [if_pos h]

def ng (a : Nat) : Nat := cn (flip a)

/-- What two words come to by an operation: the one NaN where the operation is invalid. -/
def doN (o : BinOp) (a b : Nat) : Nat := match floatBits o .f64 a b with
  | some r => cn r
  | none => nan

theorem doN_lt (o : BinOp) (a b : Nat) : doN o a b < 18446744073709551616 := by
  unfold doN
  split
  · rename_i r h
    have := floatBits_wf h
    have h2 : r < 2 ^ 64 := by simpa [Lit.wf] using this
    exact cn_lt h2
  · decide

def Four (o : BinOp) : Prop := o = .add ∨ o = .sub ∨ o = .mul ∨ o = .quo

/-- A run of an operation of floats: some word, which is, but for NaNs, what 'doN' tells; at most one draw. -/
theorem run_fl (P : Program) (o : BinOp) (ho : Four o) (t : TypeId) (a b : Nat) (w : World) :
    ∃ r w1, (binOp o t (.float .f64 a) (.float .f64 b)).run P w = .ok (.float .f64 r) w1 ∧ r < 18446744073709551616 ∧ cn r = doN o a b ∧ Grown w w1 := by
  cases h : floatBits o .f64 a b with
  | some r =>
    refine ⟨r, w, run_float_arith w o t .f64 a b r h, ?_, ?_, Grown.refl w⟩
    · have := floatBits_wf h; simpa [Lit.wf] using this
    · unfold doN; rw [h]
  | none =>
    refine ⟨(w.tape w.drawn (.nanBits .f64 a b) % 2) * 2 ^ 63 + 0x7ff0000000000000 + 1 + (w.tape w.drawn (.nanBits .f64 a b) / 2) % (2 ^ 52 - 1), w.drew, ?_, ?_, ?_, (Grown.refl w).drew⟩
    · rcases ho with rfl | rfl | rfl | rfl <;> simp only [floatBits] at h <;> simp [binOp, Op.floatArith, h, Question.forced, Question.cut]
    · omega
    · unfold doN; rw [h]
      refine cn_yes ?_
      unfold isN low
      rw [decide_eq_true_eq]
      generalize w.tape w.drawn (.nanBits .f64 a b) = T
      have hx : T % 2 < 2 := Nat.mod_lt _ (by decide)
      have hy : T / 2 % (2 ^ 52 - 1) < 2 ^ 52 - 1 := Nat.mod_lt _ (by decide)
      generalize T % 2 = x at hx ⊢
      generalize T / 2 % (2 ^ 52 - 1) = y at hy ⊢
      rcases (by omega : x = 0 ∨ x = 1) with rfl | rfl <;> omega

/-- The number by which words are in order. -/
def rk (a : Nat) : Int := if cn a < 9223372036854775808 then (cn a : Int) else -((cn a : Int) - 9223372036854775808) - 1
def ord (a b : Nat) : Int := if rk a < rk b then -1 else if rk b < rk a then 1 else 0

theorem rk_bd (a : Nat) (h : a < 18446744073709551616) : -9223372036854775808 ≤ rk a ∧ rk a < 9223372036854775808 := by
  have := cn_lt h
  unfold rk; split <;> omega

theorem cn_of_rk {a b : Nat} (h : rk a = rk b) : cn a = cn b := by
  unfold rk at h; split at h <;> split at h <;> omega

end Flo
end Go.Proofs.YtcaailiijmjdlaaGreatDoor
