/- Plain facts on rounding to binary64: a number that a rung holds is written as that rung; whole numbers of up to 53 bits are held; the rounding of whole numbers rises with them. Each theorem names its own bounds. -/
import Derived.Test.YtcaailiijmjdlaaGreatDoorFlb
set_option linter.unusedSimpArgs false
set_option linter.unusedVariables false
namespace Go.Proofs.YtcaailiijmjdlaaGreatDoor
namespace Flo

def word (s : Bool) (r : Nat) : Nat := if s then 9223372036854775808 + r else r

theorem word_eq (s : Bool) (r : Nat) : Ieee.double.word s r = word s r := by
  have h1 : Ieee.double.signWeight = 9223372036854775808 := by decide
  unfold Ieee.Format.word word
  rw [h1]

theorem cut_exact (way : Ieee.Toward) (s : Bool) (k d : Nat) (hk : 0 < k) : way.cut s (k * 2 ^ d) d = k := by
  have hp : 0 < 2 ^ d := Nat.two_pow_pos d
  have hn : k * 2 ^ d ≠ 0 := by have := Nat.mul_pos hk hp; omega
  have hd : d ≤ (k * 2 ^ d).log2 := (Nat.le_log2 hn).2 (Nat.le_mul_of_pos_left _ hk)
  unfold Ieee.Toward.cut
  rw [Nat.min_eq_left (by omega), Nat.shiftLeft_eq, Nat.one_mul]
  simp only [Nat.mul_div_cancel _ hp, Nat.mul_mod_left]
  have h0 : ¬ 2 ^ d = 0 := by omega
  cases way <;> simp [h0]

theorem nearest_eq (s : Bool) (m : Nat) (p : Int) (h : m ≠ 0) : Ieee.double.nearest s m p =
    word s (min ((max (p + m.log2 - 52) (-1074) + 1074).toNat * 4503599627370496 + Ieee.Toward.even.cut s (m <<< (p - max (p + m.log2 - 52) (-1074)).toNat) (max (p + m.log2 - 52) (-1074) - p).toNat) 9218868437227405312) := by
  have h2 : Ieee.double.binade = 4503599627370496 := by decide
  have h3 : Ieee.double.infRung = 9218868437227405312 := by decide
  have h4 : Ieee.double.leastPlace = -1074 := by decide
  have h5 : (Ieee.double.fractionBits : Int) = 52 := by decide
  unfold Ieee.Format.nearest
  rw [if_neg h, h2, h3, h4, word_eq]
  simp only [h5]
  rfl

theorem nearest_zero (s : Bool) (p : Int) : Ieee.double.nearest s 0 p = word s 0 := by
  unfold Ieee.Format.nearest
  rw [if_pos rfl, word_eq]

theorem log2_mul (k d : Nat) (hk : k ≠ 0) : (k * 2 ^ d).log2 = k.log2 + d := by
  have hp : 0 < 2 ^ d := Nat.two_pow_pos d
  have hn : k * 2 ^ d ≠ 0 := by have := Nat.mul_pos (Nat.pos_of_ne_zero hk) hp; omega
  rw [Nat.log2_eq_iff hn]
  have h1 := Nat.log2_self_le hk
  have h2 := @Nat.lt_log2_self k
  constructor
  · rw [Nat.pow_add]; exact Nat.mul_le_mul_right _ h1
  · rw [show k.log2 + d + 1 = (k.log2 + 1) + d from by omega, Nat.pow_add]; exact Nat.mul_lt_mul_of_pos_right h2 hp

/-- A rung: its place and its significand. -/
theorem rung_parts (r : Nat) (h0 : 0 < r) : ∃ c k, place r = c ∧ r = c * 4503599627370496 + k ∧ fv r = k * 2 ^ c ∧ 0 < k ∧ k < 9007199254740992 ∧ (0 < c → 4503599627370496 ≤ k) := by
  refine ⟨place r, r - place r * 4503599627370496, rfl, ?_, rfl, ?_, ?_, ?_⟩
  · unfold place; omega
  · unfold place; omega
  · unfold place; omega
  · unfold place; omega

/-- What a rung holds is written as that rung. -/
theorem near_exact (s : Bool) (m : Nat) (p : Int) (r K : Nat) (h0 : 0 < r) (hr : r < 9218868437227405312) (hK : 0 ≤ p + 1074 + K) (h : m * 2 ^ (p + 1074 + K).toNat = fv r * 2 ^ K) : Ieee.double.nearest s m p = word s r := by
  obtain ⟨c, k, hc, hrk, hf, hk0, hk1, hk2⟩ := rung_parts r h0
  rw [hf] at h
  generalize he : (p + 1074 + K).toNat = e at h
  have hp : p = (e : Int) - 1074 - K := by omega
  have hm : m ≠ 0 := by
    rintro rfl
    have : 0 < k * 2 ^ c * 2 ^ K := Nat.mul_pos (Nat.mul_pos hk0 (Nat.two_pow_pos _)) (Nat.two_pow_pos _)
    omega
  rw [Nat.mul_assoc, ← Nat.pow_add] at h
  have hlog : m.log2 + e = k.log2 + (c + K) := by
    have a := log2_mul m e hm
    have b := log2_mul k (c + K) (by omega)
    rw [h] at a; omega
  have hL1 : k.log2 < 53 := (Nat.log2_lt (by omega)).2 (by omega)
  have hL2 : 0 < c → 52 ≤ k.log2 := fun hc0 => (Nat.le_log2 (by omega)).2 (by have := hk2 hc0; omega)
  have hlast : max (p + m.log2 - 52) (-1074) = (c : Int) - 1074 := by omega
  rw [nearest_eq s m p hm, hlast]
  have hkept : Ieee.Toward.even.cut s (m <<< (p - ((c : Int) - 1074)).toNat) ((c : Int) - 1074 - p).toNat = k := by
    by_cases hle : e ≤ c + K
    · have e1 : (p - ((c : Int) - 1074)).toNat = 0 := by omega
      have e2 : ((c : Int) - 1074 - p).toNat = c + K - e := by omega
      have e3 : m = k * 2 ^ (c + K - e) := by
        have : k * 2 ^ (c + K) = k * 2 ^ (c + K - e) * 2 ^ e := by rw [Nat.mul_assoc, ← Nat.pow_add]; congr 2; omega
        rw [this] at h
        exact Nat.eq_of_mul_eq_mul_right (Nat.two_pow_pos e) h
      rw [e1, e2, Nat.shiftLeft_zero, e3]
      exact cut_exact _ _ _ _ hk0
    · have e1 : (p - ((c : Int) - 1074)).toNat = e - (c + K) := by omega
      have e2 : ((c : Int) - 1074 - p).toNat = 0 := by omega
      have e3 : m * 2 ^ (e - (c + K)) = k := by
        have : m * 2 ^ e = m * 2 ^ (e - (c + K)) * 2 ^ (c + K) := by rw [Nat.mul_assoc, ← Nat.pow_add]; congr 2; omega
        rw [this] at h
        exact Nat.eq_of_mul_eq_mul_right (Nat.two_pow_pos _) h
      rw [e1, e2, Nat.shiftLeft_eq, e3]
      have := cut_exact .even s k 0 hk0
      simpa using this
  rw [hkept]
  have e4 : ((c : Int) - 1074 + 1074).toNat * 4503599627370496 + k = r := by omega
  rw [e4, Nat.min_eq_left (by omega)]

theorem low_word (s : Bool) (r : Nat) (h : r < 9223372036854775808) : low (word s r) = r := by unfold low word; split <;> omega
theorem sgn_word (s : Bool) (r : Nat) (h : r < 9223372036854775808) : sgn (word s r) = s := by
  unfold sgn word
  cases s
  · rw [if_neg (by decide)]; rw [beq_eq_false_iff_ne]; omega
  · rw [if_pos rfl]; rw [beq_iff_eq]; omega
theorem word_lt (s : Bool) (r : Nat) (h : r < 9223372036854775808) : word s r < 18446744073709551616 := by unfold word; split <;> omega
theorem isN_word (s : Bool) (r : Nat) (h : r ≤ 9218868437227405312) : isN (word s r) = false := by
  unfold isN; rw [low_word s r (by omega), decide_eq_false_iff_not]; omega
theorem word_low (a : Nat) (h : a < 18446744073709551616) : word (sgn a) (low a) = a := by
  unfold word sgn low
  by_cases h1 : a < 9223372036854775808
  · rw [if_neg (by rw [beq_iff_eq]; omega)]; omega
  · rw [if_pos (by rw [beq_iff_eq]; omega)]; omega
theorem sv_word (s : Bool) (r : Nat) (h : r < 9223372036854775808) : sv (word s r) = if s then -(fv r : Int) else fv r := by
  unfold sv; rw [low_word s r h, sgn_word s r h]

/-- A rounded number is no NaN. -/
theorem nearest_word (s : Bool) (m : Nat) (p : Int) : ∃ r, r ≤ 9218868437227405312 ∧ Ieee.double.nearest s m p = word s r := by
  by_cases h : m = 0
  · subst h; exact ⟨0, by omega, nearest_zero s p⟩
  · rw [nearest_eq s m p h]; exact ⟨_, Nat.min_le_right _ _, rfl⟩

def E74 : Nat := 1074
theorem E74_eq : E74 = 1074 := rfl

/-- Whole numbers of up to 53 bits are held by a rung. -/
theorem rung_nat (x : Nat) (h0 : 0 < x) (h1 : x ≤ 9007199254740992) : ∃ r, 0 < r ∧ r < 9218868437227405312 ∧ fv r = x * 2 ^ E74 := by
  have main : ∀ c k, 4503599627370496 ≤ k → k < 9007199254740992 → c < 2000 → 0 < c * 4503599627370496 + k ∧ c * 4503599627370496 + k < 9218868437227405312 ∧ fv (c * 4503599627370496 + k) = k * 2 ^ c := by
    intro c k a b d
    have e : place (c * 4503599627370496 + k) = c := by unfold place; omega
    refine ⟨by omega, by omega, ?_⟩
    unfold fv
    rw [e]; congr 1; omega
  by_cases h2 : x = 9007199254740992
  · subst h2
    obtain ⟨a, b, c⟩ := main (1 + E74) 4503599627370496 (by omega) (by omega) (by have := E74_eq; omega)
    refine ⟨_, a, b, ?_⟩
    rw [c, Nat.pow_add, ← Nat.mul_assoc]
  · have hL1 : x.log2 < 53 := (Nat.log2_lt (by omega)).2 (by omega)
    have hlo := Nat.log2_self_le (n := x) (by omega)
    have hhi := @Nat.lt_log2_self x
    have a1 : 4503599627370496 ≤ x * 2 ^ (52 - x.log2) := by
      have := Nat.mul_le_mul_right (2 ^ (52 - x.log2)) hlo
      rw [← Nat.pow_add, show x.log2 + (52 - x.log2) = 52 from by omega] at this
      exact this
    have a2 : x * 2 ^ (52 - x.log2) < 9007199254740992 := by
      have := Nat.mul_lt_mul_of_pos_right hhi (Nat.two_pow_pos (52 - x.log2))
      rw [← Nat.pow_add, show x.log2 + 1 + (52 - x.log2) = 53 from by omega] at this
      exact this
    obtain ⟨a, b, c⟩ := main (1022 + x.log2) _ a1 a2 (by omega)
    refine ⟨_, a, b, ?_⟩
    rw [c, Nat.mul_assoc, ← Nat.pow_add]
    have := E74_eq
    congr 2; omega

theorem ofInt_eq (n : Int) : floatOfInt .f64 n = Ieee.double.nearest (decide (n < 0)) n.natAbs 0 := rfl

/-- A whole number of up to 53 bits as a word: its value, scaled by 2^1074. -/
theorem ofInt_small (n : Int) (h : n.natAbs ≤ 9007199254740992) : ∃ s r, r < 9218868437227405312 ∧ floatOfInt .f64 n = word s r ∧ fv r = n.natAbs * 2 ^ E74 ∧ (s = true ↔ n < 0) := by
  by_cases h0 : n = 0
  · subst h0; exact ⟨false, 0, by decide, by decide, by rw [fv_zero, Int.natAbs_zero, Nat.zero_mul], by decide⟩
  · obtain ⟨r, a, b, c⟩ := rung_nat n.natAbs (by omega) h
    refine ⟨decide (n < 0), r, b, ?_, c, by simp⟩
    rw [ofInt_eq]
    exact near_exact _ _ _ r 0 a b (by decide) (by rw [c, show (0 + 1074 + ((0 : Nat) : Int)).toNat = E74 from rfl, Nat.pow_zero, Nat.mul_one])

theorem sv_ofInt (n : Int) (h : n.natAbs ≤ 9007199254740992) : sv (floatOfInt .f64 n) = n * (2 ^ E74 : Nat) ∧ isN (floatOfInt .f64 n) = false ∧ floatOfInt .f64 n < 18446744073709551616 := by
  obtain ⟨s, r, a, b, c, d⟩ := ofInt_small n h
  rw [b]
  refine ⟨?_, isN_word s r (by omega), word_lt s r (by omega)⟩
  rw [sv_word s r (by omega), c]
  generalize 2 ^ E74 = T
  cases s
  · rw [if_neg (by decide)]
    have : ¬ n < 0 := by intro k; have := d.2 k; cases this
    rw [Int.natCast_mul, Int.natAbs_of_nonneg (by omega)]
  · rw [if_pos rfl]
    have : n < 0 := d.1 rfl
    rw [Int.natCast_mul, Int.ofNat_natAbs_of_nonpos (by omega), Int.neg_mul, Int.neg_neg]

end Flo
end Go.Proofs.YtcaailiijmjdlaaGreatDoor
