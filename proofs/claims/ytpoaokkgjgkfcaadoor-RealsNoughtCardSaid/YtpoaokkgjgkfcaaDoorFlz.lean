/- Plain facts on noughts, one and infinities in binary64: what is taken from itself, what is added to a nought, multiplied with or divided by 1, or by an infinity. For words below 2^64 that are no NaNs. -/
import Derived.Test.YtpoaokkgjgkfcaaDoorFli
set_option linter.unusedSimpArgs false
set_option linter.unusedVariables false
namespace Go.Proofs.YtpoaokkgjgkfcaaDoor
namespace Flo
open Ieee (Datum)

theorem read_inf (a : Nat) (h : low a = 9218868437227405312) : Ieee.double.read a = .infinity (sgn a) := by rw [read_eq, h]; rfl
theorem write_inf (s : Bool) : Ieee.double.write (.infinity s) = word s 9218868437227405312 := by
  have h3 : Ieee.double.infRung = 9218868437227405312 := by decide
  show Ieee.double.word s Ieee.double.infRung = _
  rw [h3, word_eq]

theorem one_parts : low 4607182418800017408 = 4607182418800017408 ∧ sgn 4607182418800017408 = false ∧ fv 4607182418800017408 = 2 ^ E74 ∧ Ieee.double.read 4607182418800017408 = .number false 4503599627370496 (-52) := by
  refine ⟨by decide, by decide, ?_, by decide⟩
  obtain ⟨s, r, a, b, c, d⟩ := ofInt_small 1 (by decide)
  have e : floatOfInt .f64 1 = 4607182418800017408 := by kernel_rfl
  rw [e] at b
  have hl := low_word s r (by omega)
  rw [← b] at hl
  have : low 4607182418800017408 = 4607182418800017408 := by decide
  rw [← hl, this] at c
  rw [c, show (1 : Int).natAbs = 1 from rfl, Nat.one_mul]

theorem sv_flip (a : Nat) (h : a < 18446744073709551616) : sv (flip a) = -sv a := by
  unfold sv; rw [low_flip, sgn_flip a h]
  cases sgn a <;> simp

theorem sub_self_fin (a : Nat) (h : a < 18446744073709551616) (hf : low a < 9218868437227405312) : doN .sub a a = 0 := by
  rw [doN_sub a a h, add_cancel a (flip a) hf (by rw [low_flip]; exact hf) (by rw [sv_flip a h]; omega), sgn_flip a h]
  cases sgn a <;> decide

theorem sub_self_inf (a : Nat) (h : a < 18446744073709551616) (hf : low a = 9218868437227405312) : doN .sub a a = nan := by
  rw [doN_sub a a h, doN_add, read_inf a hf, read_inf (flip a) (by rw [low_flip]; exact hf), sgn_flip a h]
  cases sgn a <;> rfl

theorem mul_one (a : Nat) (h : a < 18446744073709551616) (hn : isN a = false) : doN .mul a 4607182418800017408 = a := by
  obtain ⟨o1, o2, o3, o4⟩ := one_parts
  have hl : low a ≤ 9218868437227405312 := by unfold isN at hn; rw [decide_eq_false_iff_not] at hn; omega
  rcases Nat.lt_or_eq_of_le hl with hf | hf
  · by_cases h0 : low a = 0
    · rw [doN_mul, read_num a hf, o4, h0]
      simp only [Datum.product]
      show Ieee.double.nearest _ (0 * _) _ = _
      rw [Nat.zero_mul, nearest_zero, Bool.xor_false, ← h0, word_low a h]
    · rw [mul_exact a _ hf (by rw [o1]; decide) (low a) (by omega) hf (by rw [o1, o3]), o2, Bool.xor_false, word_low a h]
  · rw [doN_mul, read_inf a hf, o4]
    simp only [Datum.product]
    rw [if_neg (by decide), Bool.xor_false]
    show Ieee.double.write _ = _
    rw [write_inf, ← hf, word_low a h]

theorem quo_one (a : Nat) (h : a < 18446744073709551616) (hn : isN a = false) : doN .quo a 4607182418800017408 = a := by
  obtain ⟨_, _, _, o4⟩ := one_parts
  have hl : low a ≤ 9218868437227405312 := by unfold isN at hn; rw [decide_eq_false_iff_not] at hn; omega
  rcases Nat.lt_or_eq_of_le hl with hf | hf
  · rw [doN_quo, read_num a hf, o4]
    simp only [Datum.quotient]
    rw [if_neg (by decide), Bool.xor_false]
    show Ieee.double.nearest _ _ _ = _
    have hlog : (4503599627370496 : Nat).log2 = 52 := by decide +kernel
    rw [hlog]
    by_cases h0 : low a = 0
    · rw [h0]
      have e1 : (0 - place 0 * 4503599627370496) = 0 := by decide
      rw [e1, Nat.zero_shiftLeft, Nat.zero_div, Nat.zero_mod]
      show Ieee.double.nearest _ (2 * 0 + 0) _ = _
      rw [nearest_zero, ← h0, word_low a h]
    · have hp : 0 < low a := by omega
      obtain ⟨c, k, hc, hrk, hfv, hk0, hk1, hk2⟩ := rung_parts (low a) hp
      have ek : low a - place (low a) * 4503599627370496 = k := by rw [hc]; omega
      rw [ek, hc]
      have hL1 : k.log2 < 53 := (Nat.log2_lt (by omega)).2 (by omega)
      generalize hm : 54 + 52 - k.log2 = more
      have hmore : 54 ≤ more := by omega
      have hdiv : k <<< more = (k * 2 ^ (more - 52)) * 4503599627370496 := by
        have e52 : more - 52 + 52 = more := by omega
        rw [Nat.shiftLeft_eq, Nat.mul_assoc, show (4503599627370496 : Nat) = 2 ^ 52 from by decide, ← Nat.pow_add, e52]
      rw [hdiv, Nat.mul_div_cancel _ (by decide), Nat.mul_mod_left]
      show Ieee.double.nearest (sgn a) (2 * (k * 2 ^ (more - 52)) + 0) _ = _
      rw [near_exact (sgn a) _ _ (low a) more hp hf (by omega) ?_, word_low a h]
      rw [hfv, Nat.add_zero]
      have e : (-1074 + (c : Int) - -52 - (more : Int) - 1 + 1074 + (more : Int)).toNat = c + 51 := by omega
      rw [e]
      have e2 : 2 * (k * 2 ^ (more - 52)) * 2 ^ (c + 51) = k * 2 ^ (1 + (more - 52) + (c + 51)) := by
        rw [Nat.pow_add 2 (1 + (more - 52)) (c + 51), Nat.pow_add 2 1 (more - 52), Nat.pow_one]
        generalize 2 ^ (more - 52) = A
        generalize 2 ^ (c + 51) = B
        rw [Nat.mul_left_comm 2 k A, Nat.mul_assoc k (2 * A) B]
      have e3 : 1 + (more - 52) + (c + 51) = c + more := by omega
      rw [e2, e3, Nat.pow_add, Nat.mul_assoc]
  · rw [doN_quo, read_inf a hf, o4]
    simp only [Datum.quotient]
    rw [Bool.xor_false]
    show Ieee.double.write _ = _
    rw [write_inf, ← hf, word_low a h]

theorem add_nought (a z : Nat) (h : a < 18446744073709551616) (hn : isN a = false) (h0 : low a ≠ 0) (hz : low z = 0) : doN .add a z = a := by
  have hl : low a ≤ 9218868437227405312 := by unfold isN at hn; rw [decide_eq_false_iff_not] at hn; omega
  have hsz : sv z = 0 := by
    unfold sv; rw [hz, fv_zero]; cases sgn z <;> rfl
  rcases Nat.lt_or_eq_of_le hl with hf | hf
  · have hp := fv_pos (r := low a) (by omega)
    rw [add_exact a z hf (by omega) (low a) (by omega) hf (by
      rw [hsz, Int.add_zero]; unfold sv; split <;> omega), hsz, Int.add_zero]
    have : decide (sv a < 0) = sgn a := by
      unfold sv
      cases sgn a
      · rw [decide_eq_false_iff_not, if_neg (by decide)]; omega
      · rw [decide_eq_true_eq, if_pos rfl]; omega
    rw [this, word_low a h]
  · rw [doN_add, read_inf a hf, read_num z (by omega)]
    show Ieee.double.write _ = _
    rw [write_inf, ← hf, word_low a h]

theorem quo_inf (a : Nat) (hf : low a < 9218868437227405312) : doN .quo a 9218868437227405312 = word (sgn a) 0 := by
  rw [doN_quo, read_num a hf, read_inf 9218868437227405312 (by decide)]
  simp only [Datum.quotient]
  show Ieee.double.nearest _ 0 0 = _
  rw [nearest_zero]
  have : sgn 9218868437227405312 = false := by decide
  rw [this, Bool.xor_false]

theorem ng_ng (a : Nat) (h : a < 18446744073709551616) (hn : isN a = false) : ng (ng a) = a := by
  rcases ng_of a with ⟨h1, _⟩ | ⟨_, h2⟩
  · rw [hn] at h1; cases h1
  · rw [h2]
    rcases ng_of (flip a) with ⟨h3, _⟩ | ⟨_, h4⟩
    · rw [isN_flip, hn] at h3; cases h3
    · rw [h4, flip_flip h]

end Flo
end Go.Proofs.YtpoaokkgjgkfcaaDoor
