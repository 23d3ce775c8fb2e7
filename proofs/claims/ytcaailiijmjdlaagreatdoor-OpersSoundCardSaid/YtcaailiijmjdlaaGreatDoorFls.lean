/- Plain facts on the four operations of binary64: they hang on no order, they go with the sign, a NaN takes all; sums and products that a rung holds are exact. Each theorem names its own bounds. -/
import Derived.Test.YtcaailiijmjdlaaGreatDoorFlr
set_option linter.unusedSimpArgs false
set_option linter.unusedVariables false
namespace Go.Proofs.YtcaailiijmjdlaaGreatDoor
namespace Flo
open Ieee (Datum)

theorem sgn_flip (a : Nat) (h : a < 18446744073709551616) : sgn (flip a) = !sgn a := by
  unfold sgn flip
  by_cases h1 : a < 9223372036854775808
  · rw [if_pos h1, Bool.eq_iff_iff]; simp; omega
  · rw [if_neg h1, Bool.eq_iff_iff]; simp; omega

theorem read_flip (a : Nat) (h : a < 18446744073709551616) : Ieee.double.read (flip a) = (Ieee.double.read a).opposite := by
  rw [read_eq, read_eq, low_flip, sgn_flip a h]
  split
  · rfl
  · split
    · rfl
    · split <;> rfl

theorem sum_comm (d e : Datum) : d.sum e = e.sum d := by
  cases d <;> cases e <;> simp only [Datum.sum]
  · rename_i s m i t n j
    rw [Int.min_comm j i, Int.add_comm, Bool.and_comm t s]
  · rename_i s t
    by_cases h : s = t
    · subst h; rfl
    · rw [if_neg h, if_neg (fun x => h x.symm)]

theorem product_comm (d e : Datum) : d.product e = e.product d := by
  cases d <;> cases e <;> simp only [Datum.product]
  · rename_i s m i t n j
    rw [Nat.mul_comm, Int.add_comm, Bool.xor_comm]
  · rw [Bool.xor_comm]

theorem product_opposite (d e : Datum) : d.opposite.product e = (d.product e).map Datum.opposite := by
  cases d <;> cases e <;> simp only [Datum.product, Datum.opposite, Option.map_none, Option.map_some]
  · rename_i s m i t n j; cases s <;> cases t <;> rfl
  · rename_i s m i t; by_cases h : m = 0
    · rw [if_pos h, if_pos h]; rfl
    · rw [if_neg h, if_neg h]; cases s <;> cases t <;> rfl
  · rename_i s t n j; by_cases h : n = 0
    · rw [if_pos h, if_pos h]; rfl
    · rw [if_neg h, if_neg h]; cases s <;> cases t <;> rfl
  · rename_i s t; cases s <;> cases t <;> rfl

theorem quotient_opposite (k : Nat) (d e : Datum) : d.quotient k e.opposite = (d.quotient k e).map Datum.opposite := by
  cases d <;> cases e <;> simp only [Datum.quotient, Datum.opposite, Option.map_none, Option.map_some]
  · rename_i s m i t n j
    by_cases h : n = 0
    · rw [if_pos h, if_pos h]
      by_cases h2 : m = 0
      · rw [if_pos h2, if_pos h2]; rfl
      · rw [if_neg h2, if_neg h2]; cases s <;> cases t <;> rfl
    · rw [if_neg h, if_neg h]; cases s <;> cases t <;> rfl
  · rename_i s m i t; cases s <;> cases t <;> rfl
  · rename_i s t n j; cases s <;> cases t <;> rfl

theorem flip_word (s : Bool) (r : Nat) (h : r < 9223372036854775808) : flip (word s r) = word (!s) r := by
  unfold flip word; cases s
  · show (if r < 9223372036854775808 then r + 9223372036854775808 else r - 9223372036854775808) = 9223372036854775808 + r
    rw [if_pos h]; omega
  · show (if 9223372036854775808 + r < 9223372036854775808 then 9223372036854775808 + r + 9223372036854775808 else 9223372036854775808 + r - 9223372036854775808) = r
    rw [if_neg (by omega)]; omega

def Real (d : Datum) : Prop := ∀ s t, d ≠ .nan s t

theorem write_word (d : Datum) (h : Real d) : ∃ s r, r ≤ 9218868437227405312 ∧ Ieee.double.write d = word s r ∧ Ieee.double.write d.opposite = word (!s) r := by
  cases d with
  | number s m p =>
    by_cases h0 : m = 0
    · subst h0
      exact ⟨s, 0, by omega, nearest_zero s p, nearest_zero (!s) p⟩
    · refine ⟨s, _, Nat.min_le_right _ _, nearest_eq s m p h0, ?_⟩
      exact nearest_eq (!s) m p h0
  | infinity s =>
    have h3 : Ieee.double.infRung = 9218868437227405312 := by decide
    refine ⟨s, 9218868437227405312, Nat.le_refl _, ?_, ?_⟩
    · show Ieee.double.word s Ieee.double.infRung = _
      rw [h3, word_eq]
    · show Ieee.double.word (!s) Ieee.double.infRung = _
      rw [h3, word_eq]
  | nan s t => exact absurd rfl (h s t)

theorem cn_write (d : Datum) (h : Real d) : cn (Ieee.double.write d) = Ieee.double.write d := by
  obtain ⟨s, r, a, b, _⟩ := write_word d h
  rw [b]; exact cn_not (isN_word s r a)

theorem write_flip (d : Datum) (h : Real d) : ng (Ieee.double.write d) = Ieee.double.write d.opposite := by
  obtain ⟨s, r, a, b, c⟩ := write_word d h
  rw [b, c]; unfold ng; rw [flip_word s r (by omega)]; exact cn_not (isN_word _ r a)

theorem sum_real (d e f : Datum) (h : d.sum e = some f) : Real f := by
  cases d <;> cases e <;> simp only [Datum.sum] at h
  · cases h; intro s t x; cases x
  · cases h; intro s t x; cases x
  · cases h
  · cases h; intro s t x; cases x
  · split at h
    · cases h; intro s t x; cases x
    · cases h
  all_goals cases h
theorem product_real (d e f : Datum) (h : d.product e = some f) : Real f := by
  cases d <;> cases e <;> simp only [Datum.product] at h
  · cases h; intro s t x; cases x
  · split at h
    · cases h
    · cases h; intro s t x; cases x
  · cases h
  · split at h
    · cases h
    · cases h; intro s t x; cases x
  · cases h; intro s t x; cases x
  all_goals cases h
theorem quotient_real (k : Nat) (d e f : Datum) (h : d.quotient k e = some f) : Real f := by
  cases d <;> cases e <;> simp only [Datum.quotient] at h
  · split at h
    · split at h
      · cases h
      · cases h; intro s t x; cases x
    · cases h; intro s t x; cases x
  · cases h; intro s t x; cases x
  · cases h
  · cases h; intro s t x; cases x
  all_goals cases h

theorem doN_add (a b : Nat) : doN .add a b = match (Ieee.double.read a).sum (Ieee.double.read b) with | some d => Ieee.double.write d | none => nan := by
  unfold doN floatBits
  show (match ((Ieee.double.read a).sum (Ieee.double.read b)).map Ieee.double.write with | some r => cn r | none => nan) = _
  cases h : (Ieee.double.read a).sum (Ieee.double.read b) with
  | none => rfl
  | some d => exact cn_write d (sum_real _ _ _ h)
theorem doN_mul (a b : Nat) : doN .mul a b = match (Ieee.double.read a).product (Ieee.double.read b) with | some d => Ieee.double.write d | none => nan := by
  unfold doN floatBits
  show (match ((Ieee.double.read a).product (Ieee.double.read b)).map Ieee.double.write with | some r => cn r | none => nan) = _
  cases h : (Ieee.double.read a).product (Ieee.double.read b) with
  | none => rfl
  | some d => exact cn_write d (product_real _ _ _ h)
theorem doN_quo (a b : Nat) : doN .quo a b = match (Ieee.double.read a).quotient 54 (Ieee.double.read b) with | some d => Ieee.double.write d | none => nan := by
  unfold doN floatBits
  show (match ((Ieee.double.read a).quotient 54 (Ieee.double.read b)).map Ieee.double.write with | some r => cn r | none => nan) = _
  cases h : (Ieee.double.read a).quotient 54 (Ieee.double.read b) with
  | none => rfl
  | some d => exact cn_write d (quotient_real _ _ _ _ h)
theorem doN_sub (a b : Nat) (h : b < 18446744073709551616) : doN .sub a b = doN .add a (flip b) := by
  unfold doN floatBits
  show (match ((Ieee.double.read a).sum (Ieee.double.read b).opposite).map Ieee.double.write with | some r => cn r | none => nan) = (match ((Ieee.double.read a).sum (Ieee.double.read (flip b))).map Ieee.double.write with | some r => cn r | none => nan)
  rw [read_flip b h]

theorem read_nan (a : Nat) (h : isN a = true) : ∃ s t, Ieee.double.read a = .nan s t := by
  have hc' : 9218868437227405312 < low a := by unfold isN at h; simpa using h
  exact ⟨_, _, by rw [read_eq, if_neg (by omega), if_neg (by omega), if_neg (by omega)]⟩

theorem doN_nan (o : BinOp) (ho : Four o) (a b : Nat) (hb : b < 18446744073709551616) (h : isN a = true ∨ isN b = true) : doN o a b = nan := by
  have key : ∀ b, (isN a = true ∨ isN b = true) → doN .add a b = nan ∧ doN .mul a b = nan ∧ doN .quo a b = nan := by
    intro b h
    rw [doN_add, doN_mul, doN_quo]
    rcases h with h | h
    · obtain ⟨s, t, e⟩ := read_nan a h
      rw [e]; cases Ieee.double.read b <;> exact ⟨rfl, rfl, rfl⟩
    · obtain ⟨s, t, e⟩ := read_nan b h
      rw [e]; cases Ieee.double.read a <;> exact ⟨rfl, rfl, rfl⟩
  rcases ho with rfl | rfl | rfl | rfl
  · exact (key b h).1
  · rw [doN_sub a b hb]; exact (key (flip b) (by rw [isN_flip]; exact h)).1
  · exact (key b h).2.1
  · exact (key b h).2.2

theorem add_comm (a b : Nat) : doN .add a b = doN .add b a := by rw [doN_add, doN_add, sum_comm]
theorem mul_comm (a b : Nat) : doN .mul a b = doN .mul b a := by rw [doN_mul, doN_mul, product_comm]

theorem ng_of (a : Nat) : (isN a = true ∧ ng a = nan) ∨ (isN a = false ∧ ng a = flip a) := by
  unfold ng
  cases h : isN a
  · exact Or.inr ⟨rfl, cn_not (by rw [isN_flip]; exact h)⟩
  · exact Or.inl ⟨rfl, cn_yes (by rw [isN_flip]; exact h)⟩
theorem ng_lt {a : Nat} (h : a < 18446744073709551616) : ng a < 18446744073709551616 := cn_lt (flip_lt h)

theorem sub_neg (a b : Nat) (h : b < 18446744073709551616) : doN .sub a b = doN .add a (ng b) := by
  rcases ng_of b with ⟨h1, h2⟩ | ⟨h1, h2⟩
  · rw [h2, doN_nan .sub (by simp [Four]) a b h (Or.inr h1), doN_nan .add (by simp [Four]) a nan (by decide) (Or.inr isN_nan)]
  · rw [h2, doN_sub a b h]

theorem ng_nan : ng nan = nan := by decide

theorem mul_neg (a b : Nat) (h : a < 18446744073709551616) (hb : b < 18446744073709551616) : doN .mul (ng a) b = ng (doN .mul a b) := by
  rcases ng_of a with ⟨h1, h2⟩ | ⟨h1, h2⟩
  · rw [h2, doN_nan .mul (by simp [Four]) a b hb (Or.inl h1), doN_nan .mul (by simp [Four]) nan b hb (Or.inl isN_nan), ng_nan]
  · rw [h2, doN_mul, doN_mul, read_flip a h, product_opposite]
    cases hp : (Ieee.double.read a).product (Ieee.double.read b) with
    | none => exact ng_nan.symm
    | some d => exact (write_flip d (product_real _ _ _ hp)).symm

theorem quo_neg (a b : Nat) (h : b < 18446744073709551616) : doN .quo a (ng b) = ng (doN .quo a b) := by
  rcases ng_of b with ⟨h1, h2⟩ | ⟨h1, h2⟩
  · rw [h2, doN_nan .quo (by simp [Four]) a b h (Or.inr h1), doN_nan .quo (by simp [Four]) a nan (by decide) (Or.inr isN_nan), ng_nan]
  · rw [h2, doN_quo, doN_quo, read_flip b h, quotient_opposite]
    cases hp : (Ieee.double.read a).quotient 54 (Ieee.double.read b) with
    | none => exact ng_nan.symm
    | some d => exact (write_flip d (quotient_real _ _ _ _ hp)).symm

/-- A sum of two finite words whose value a rung holds. -/
theorem add_exact (a b : Nat) (ha : low a < 9218868437227405312) (hb : low b < 9218868437227405312) (r : Nat) (h0 : 0 < r) (hr : r < 9218868437227405312) (h : (sv a + sv b).natAbs = fv r) : doN .add a b = word (decide (sv a + sv b < 0)) r := by
  rw [doN_add, read_num a ha, read_num b hb]
  simp only [Datum.sum]
  generalize hbase : min (-1074 + (place (low a) : Int)) (-1074 + (place (low b) : Int)) = base
  generalize ht : Ieee.signed (sgn a) (low a - place (low a) * 4503599627370496) (-1074 + (place (low a) : Int) - base).toNat + Ieee.signed (sgn b) (low b - place (low b) * 4503599627370496) (-1074 + (place (low b) : Int) - base).toNat = total
  have hk : 0 ≤ base + 1074 := by omega
  have hv : total * 2 ^ (base + 1074).toNat = sv a + sv b := by
    rw [← ht, Int.add_mul, signed_scale, signed_scale]
    have e1 : (-1074 + (place (low a) : Int) - base).toNat + (base + 1074).toNat = place (low a) := by omega
    have e2 : (-1074 + (place (low b) : Int) - base).toNat + (base + 1074).toNat = place (low b) := by omega
    rw [e1, e2]
    unfold Ieee.signed sv fv
    rw [Nat.shiftLeft_eq, Nat.shiftLeft_eq]
  have hp : (0 : Int) < 2 ^ (base + 1074).toNat := Int.pow_pos (by decide)
  have hpos := fv_pos h0
  have hne : total ≠ 0 := by
    rintro rfl
    rw [Int.zero_mul] at hv
    omega
  have hs : (total < 0) ↔ (sv a + sv b < 0) := by
    rw [← hv]
    constructor
    · intro h; exact Int.mul_neg_of_neg_of_pos h hp
    · intro h
      rcases Int.lt_or_le total 0 with k | k
      · exact k
      · have := Int.mul_nonneg k (Int.le_of_lt hp); omega
  rw [if_neg hne]
  show Ieee.double.nearest _ _ _ = _
  rw [show decide (sv a + sv b < 0) = decide (total < 0) from by rw [Bool.eq_iff_iff]; simp [hs]]
  refine near_exact _ _ _ r 0 h0 hr (by omega) ?_
  rw [Nat.pow_zero, Nat.mul_one, ← h, ← hv, Int.natAbs_mul]
  congr 1
  rw [show (base + 1074 + ((0 : Nat) : Int)).toNat = (base + 1074).toNat from by omega]
  rw [Int.natAbs_pow]; rfl

/-- A sum of two finite words that cancels. -/
theorem add_cancel (a b : Nat) (ha : low a < 9218868437227405312) (hb : low b < 9218868437227405312) (h : sv a + sv b = 0) : doN .add a b = word (sgn a && sgn b) 0 := by
  rw [doN_add, read_num a ha, read_num b hb]
  simp only [Datum.sum]
  generalize hbase : min (-1074 + (place (low a) : Int)) (-1074 + (place (low b) : Int)) = base
  generalize ht : Ieee.signed (sgn a) (low a - place (low a) * 4503599627370496) (-1074 + (place (low a) : Int) - base).toNat + Ieee.signed (sgn b) (low b - place (low b) * 4503599627370496) (-1074 + (place (low b) : Int) - base).toNat = total
  have hv : total * 2 ^ (base + 1074).toNat = sv a + sv b := by
    rw [← ht, Int.add_mul, signed_scale, signed_scale]
    have e1 : (-1074 + (place (low a) : Int) - base).toNat + (base + 1074).toNat = place (low a) := by omega
    have e2 : (-1074 + (place (low b) : Int) - base).toNat + (base + 1074).toNat = place (low b) := by omega
    rw [e1, e2]
    unfold Ieee.signed sv fv
    rw [Nat.shiftLeft_eq, Nat.shiftLeft_eq]
  have hp : (0 : Int) < 2 ^ (base + 1074).toNat := Int.pow_pos (by decide)
  have hz : total = 0 := by
    rw [h] at hv
    rcases Int.mul_eq_zero.1 hv with k | k
    · exact k
    · omega
  subst hz
  rw [if_pos rfl]
  exact nearest_zero _ _

/-- A product of two finite words whose value a rung holds. -/
theorem mul_exact (a b : Nat) (ha : low a < 9218868437227405312) (hb : low b < 9218868437227405312) (r : Nat) (h0 : 0 < r) (hr : r < 9218868437227405312) (h : fv (low a) * fv (low b) = fv r * 2 ^ E74) : doN .mul a b = word (sgn a ^^ sgn b) r := by
  rw [doN_mul, read_num a ha, read_num b hb]
  simp only [Datum.product]
  show Ieee.double.nearest _ _ _ = _
  have hE := E74_eq
  refine near_exact _ _ _ r E74 h0 hr (by omega) ?_
  rw [← h]
  unfold fv
  rw [show (-1074 + (place (low a) : Int) + (-1074 + (place (low b) : Int)) + 1074 + (E74 : Int)).toNat = place (low a) + place (low b) from by omega, Nat.pow_add]
  generalize 2 ^ place (low a) = x
  generalize 2 ^ place (low b) = y
  generalize low a - place (low a) * 4503599627370496 = u
  generalize low b - place (low b) * 4503599627370496 = v
  rw [Nat.mul_assoc u v, Nat.mul_assoc u x, ← Nat.mul_assoc v x y, Nat.mul_comm v x, Nat.mul_assoc x v y]

end Flo
end Go.Proofs.YtcaailiijmjdlaaGreatDoor
