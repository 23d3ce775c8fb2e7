/- Plain facts on words of 64 bits read as binary64: the magnitude of a rung, that it rises strictly, how two words compare, which of them are no numbers. It stands without any condition of its own but those that each theorem names. -/
import Derived.Laws.FloatArith
import Derived.Laws.BitsAllLaws
set_option linter.unusedSimpArgs false
set_option linter.unusedVariables false
namespace Go.Proofs.YtcaailiijmjdlaaGreatDoor
namespace Flo

def low (a : Nat) : Nat := a % 9223372036854775808
def isN (a : Nat) : Bool := decide (9218868437227405312 < low a)
def nan : Nat := 9221120237041090560
def cn (a : Nat) : Nat := if isN a then nan else a
def place (r : Nat) : Nat := r / 4503599627370496 - 1
def fv (r : Nat) : Nat := (r - place r * 4503599627370496) * 2 ^ place r
def sgn (a : Nat) : Bool := a / 9223372036854775808 % 2 == 1
def sv (a : Nat) : Int := if sgn a then -(fv (low a) : Int) else fv (low a)
def key (a : Nat) : Int := if sgn a then -(low a : Int) else low a

theorem read_eq (a : Nat) : Ieee.double.read a =
    if low a < 4503599627370496 then .number (sgn a) (low a) (-1074)
    else if low a < 9218868437227405312 then .number (sgn a) (4503599627370496 + low a % 4503599627370496) (-1074 + (low a / 4503599627370496 - 1 : Nat))
    else if low a = 9218868437227405312 then .infinity (sgn a) else .nan (sgn a) (low a - 9218868437227405312) := by
  have h1 : Ieee.double.signWeight = 9223372036854775808 := by decide
  have h2 : Ieee.double.binade = 4503599627370496 := by decide
  have h3 : Ieee.double.infRung = 9218868437227405312 := by decide
  have h4 : Ieee.double.leastPlace = -1074 := by decide
  unfold Ieee.Format.read
  rw [h1, h2, h3, h4]
  rfl

theorem low_lt (a : Nat) : low a < 9223372036854775808 := Nat.mod_lt _ (by decide)

theorem sub_place (r : Nat) : (r < 4503599627370496 → place r = 0 ∧ r - place r * 4503599627370496 = r) ∧
    (4503599627370496 ≤ r → r - place r * 4503599627370496 = 4503599627370496 + r % 4503599627370496) := by
  unfold place
  constructor
  · intro h
    have : r / 4503599627370496 = 0 := Nat.div_eq_of_lt h
    rw [this]; simp
  · intro h; omega

/-- A word that is no NaN and no infinity is the number 'fv' of its rung. -/
theorem read_num (a : Nat) (h : low a < 9218868437227405312) :
    Ieee.double.read a = .number (sgn a) (low a - place (low a) * 4503599627370496) (-1074 + (place (low a) : Int)) := by
  rw [read_eq]
  have h1 := sub_place (low a)
  by_cases hb : low a < 4503599627370496
  · rw [if_pos hb, (h1.1 hb).2, (h1.1 hb).1]; simp
  · rw [if_neg hb, if_pos h, h1.2 (by omega)]; rfl

theorem fv_step (r : Nat) : fv r < fv (r + 1) := by
  unfold fv
  by_cases h : r < 4503599627370496
  · by_cases h2 : r + 1 < 4503599627370496
    · have a := (sub_place r).1 h
      have b := (sub_place (r + 1)).1 h2
      rw [a.2, b.2, a.1, b.1]; omega
    · have : r = 4503599627370495 := by omega
      subst this; decide
  · have a := (sub_place r).2 (by omega)
    have b := (sub_place (r + 1)).2 (by omega)
    rw [a, b]
    by_cases h3 : r % 4503599627370496 + 1 < 4503599627370496
    · have e1 : (r + 1) % 4503599627370496 = r % 4503599627370496 + 1 := by omega
      have e2 : place (r + 1) = place r := by unfold place; omega
      rw [e1, e2]
      exact Nat.mul_lt_mul_of_pos_right (by omega) (Nat.two_pow_pos _)
    · have e1 : (r + 1) % 4503599627370496 = 0 := by omega
      have e2 : place (r + 1) = place r + 1 := by unfold place; omega
      have e3 : r % 4503599627370496 = 4503599627370495 := by omega
      rw [e1, e2, e3, Nat.pow_succ]
      have := Nat.two_pow_pos (place r)
      omega

theorem fv_zero : fv 0 = 0 := by decide

theorem fv_lt {r s : Nat} (h : r < s) : fv r < fv s := by
  induction s with
  | zero => omega
  | succ s ih =>
    by_cases e : r = s
    · subst e; exact fv_step r
    · exact Nat.lt_trans (ih (by omega)) (fv_step s)

theorem fv_lt_iff {r s : Nat} : fv r < fv s ↔ r < s := by
  refine ⟨fun h => ?_, fv_lt⟩
  by_cases e : r < s
  · exact e
  · rcases Nat.lt_or_eq_of_le (Nat.le_of_not_lt e) with h2 | h2
    · have := fv_lt h2; omega
    · subst h2; omega

theorem fv_pos {r : Nat} (h : 0 < r) : 0 < fv r := by have := fv_lt h; rw [fv_zero] at this; exact this

theorem sv_lt_iff (a b : Nat) : sv a < sv b ↔ key a < key b := by
  unfold sv key
  have h1 := @fv_lt_iff (low a) (low b)
  have h2 := @fv_lt_iff (low b) (low a)
  have h3 : 0 < low a → 0 < fv (low a) := fv_pos
  have h4 : 0 < low b → 0 < fv (low b) := fv_pos
  have h5 : low a = 0 → fv (low a) = 0 := fun e => by rw [e]; exact fv_zero
  have h6 : low b = 0 → fv (low b) = 0 := fun e => by rw [e]; exact fv_zero
  cases sgn a <;> cases sgn b <;> simp <;> omega

theorem cmp_key (a b : Nat) : compare (sv a) (sv b) = compare (key a) (key b) := by
  have h1 := sv_lt_iff a b
  have h2 := sv_lt_iff b a
  rcases Int.lt_trichotomy (sv a) (sv b) with h | h | h
  · rw [Int.compare_eq_lt.2 h, Int.compare_eq_lt.2 (h1.1 h)]
  · have e : key a = key b := by
      rcases Int.lt_trichotomy (key a) (key b) with k | k | k
      · have := h1.2 k; omega
      · exact k
      · have := h2.2 k; omega
    rw [h, e]; simp [Int.compare_eq_eq.2]
  · rw [Int.compare_eq_gt.2 h, Int.compare_eq_gt.2 (h2.1 h)]

theorem compare_scale (x y : Int) (k : Nat) : compare (x * 2 ^ k) (y * 2 ^ k) = compare x y := by
  have hp : (0 : Int) < 2 ^ k := Int.pow_pos (by decide)
  rcases Int.lt_trichotomy x y with h | h | h
  · rw [Int.compare_eq_lt.2 h, Int.compare_eq_lt.2 ((Int.mul_lt_mul_right hp).2 h)]
  · rw [h]; simp [Int.compare_eq_eq.2]
  · rw [Int.compare_eq_gt.2 h, Int.compare_eq_gt.2 ((Int.mul_lt_mul_right hp).2 h)]

theorem signed_scale (s : Bool) (m n k : Nat) : Ieee.signed s m n * 2 ^ k = Ieee.signed s m (n + k) := by
  unfold Ieee.signed
  rw [Nat.shiftLeft_eq, Nat.shiftLeft_eq, Nat.pow_add, ← Nat.mul_assoc]
  cases s <;> simp [Int.natCast_mul, Int.natCast_pow, Int.neg_mul]

/-- Two words that are no NaNs compare as their keys do. -/
theorem order_key (a b : Nat) (ha : isN a = false) (hb : isN b = false) : Ieee.double.order a b = some (compare (key a) (key b)) := by
  have ha' : low a ≤ 9218868437227405312 := by unfold isN at ha; simpa using ha
  have hb' : low b ≤ 9218868437227405312 := by unfold isN at hb; simpa using hb
  rw [← cmp_key]
  unfold Ieee.Format.order
  have inf : ∀ c, low c = 9218868437227405312 → Ieee.double.read c = .infinity (sgn c) := by
    intro c hc; rw [read_eq, hc]; rfl
  have big : ∀ c d, low c = 9218868437227405312 → low d < 9218868437227405312 → fv (low d) < fv (low c) := fun c d hc hd => fv_lt (by omega)
  rcases Nat.lt_or_eq_of_le ha' with h1 | h1
  · rcases Nat.lt_or_eq_of_le hb' with h2 | h2
    · rw [read_num a h1, read_num b h2]
      simp only [Ieee.Datum.order, Option.some.injEq]
      rw [← compare_scale _ _ (min (-1074 + (place (low a) : Int)) (-1074 + (place (low b) : Int)) + 1074).toNat, signed_scale, signed_scale]
      congr 1
      · have e : (-1074 + (place (low a) : Int) - min (-1074 + (place (low a) : Int)) (-1074 + (place (low b) : Int))).toNat + (min (-1074 + (place (low a) : Int)) (-1074 + (place (low b) : Int)) + 1074).toNat = place (low a) := by omega
        rw [e]; unfold Ieee.signed sv fv; rw [Nat.shiftLeft_eq]
      · have e : (-1074 + (place (low b) : Int) - min (-1074 + (place (low a) : Int)) (-1074 + (place (low b) : Int))).toNat + (min (-1074 + (place (low a) : Int)) (-1074 + (place (low b) : Int)) + 1074).toNat = place (low b) := by omega
        rw [e]; unfold Ieee.signed sv fv; rw [Nat.shiftLeft_eq]
    · rw [inf b h2, read_num a h1]
      have hb := big b a h2 h1
      simp only [Ieee.Datum.order, Option.some.injEq]
      unfold sv
      cases sgn a <;> cases sgn b <;> simp only [if_true, if_false, Bool.false_eq_true] <;> symm <;> first | (rw [Int.compare_eq_gt]; omega) | (rw [Int.compare_eq_lt]; omega)
  · rcases Nat.lt_or_eq_of_le hb' with h2 | h2
    · rw [inf a h1, read_num b h2]
      have hb := big a b h1 h2
      simp only [Ieee.Datum.order, Option.some.injEq]
      unfold sv
      cases sgn a <;> cases sgn b <;> simp only [if_true, if_false, Bool.false_eq_true] <;> symm <;> first | (rw [Int.compare_eq_gt]; omega) | (rw [Int.compare_eq_lt]; omega)
    · rw [inf a h1, inf b h2]
      simp only [Ieee.Datum.order, Option.some.injEq]
      have hp : 0 < fv 9218868437227405312 := fv_pos (by decide)
      unfold sv
      rw [h1, h2]
      generalize fv 9218868437227405312 = F at hp
      cases sgn a <;> cases sgn b <;> symm <;> first | (refine Eq.trans (Int.compare_eq_lt.2 ?_) rfl; simp; omega) | (refine Eq.trans (Int.compare_eq_gt.2 ?_) rfl; simp; omega) | (refine Eq.trans (Int.compare_eq_eq.2 ?_) rfl; simp)

theorem order_nan (a b : Nat) (h : isN a = true ∨ isN b = true) : Ieee.double.order a b = none := by
  have nn : ∀ c, isN c = true → Ieee.double.read c = .nan (sgn c) (low c - 9218868437227405312) := by
    intro c hc
    have hc' : 9218868437227405312 < low c := by unfold isN at hc; simpa using hc
    rw [read_eq, if_neg (by omega), if_neg (by omega), if_neg (by omega)]
  unfold Ieee.Format.order
  rcases h with h | h
  · rw [nn a h]; cases Ieee.double.read b <;> rfl
  · rw [nn b h]; cases Ieee.double.read a <;> rfl

def less (a b : Nat) : Bool := !isN a && !isN b && decide (key a < key b)
def equal (a b : Nat) : Bool := !isN a && !isN b && decide (key a = key b)

theorem order_less (a b : Nat) : (Ieee.double.order a b == some .lt) = less a b := by
  unfold less
  cases ha : isN a
  · cases hb : isN b
    · rw [order_key a b ha hb]
      rw [Bool.eq_iff_iff]; simp [Int.compare_eq_lt]
    · rw [order_nan a b (Or.inr hb)]; rfl
  · rw [order_nan a b (Or.inl ha)]; rfl

theorem order_equal (a b : Nat) : (Ieee.double.order a b == some .eq) = equal a b := by
  unfold equal
  cases ha : isN a
  · cases hb : isN b
    · rw [order_key a b ha hb]
      rw [Bool.eq_iff_iff]; simp [Int.compare_eq_eq]
    · rw [order_nan a b (Or.inr hb)]; rfl
  · rw [order_nan a b (Or.inl ha)]; rfl

end Flo
end Go.Proofs.YtcaailiijmjdlaaGreatDoor
