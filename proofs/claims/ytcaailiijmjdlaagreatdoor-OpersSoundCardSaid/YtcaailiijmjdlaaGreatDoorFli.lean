/- Plain facts on whole numbers and binary64: rounding rises with the numbers; what a word is, cut towards zero, lies within 64 bits where the word lies between the words of -2^63 and 2^63; whole numbers of up to 53 bits come back, and so do their sums, differences and products. -/
import Derived.Test.YtcaailiijmjdlaaGreatDoorFls
set_option linter.unusedSimpArgs false
set_option linter.unusedVariables false
namespace Go.Proofs.YtcaailiijmjdlaaGreatDoor
namespace Flo

/-- The rung to which a whole number is rounded. -/
def rn (x : Nat) : Nat := (x.log2 + 1022) * 4503599627370496 + Ieee.Toward.even.cut false (x * 2 ^ (52 - x.log2)) (x.log2 - 52)

theorem cut_even (s : Bool) (n d : Nat) (h : d ≤ n.log2 + 2) : Ieee.Toward.even.cut s n d = n / 2 ^ d + (decide (2 ^ d < 2 * (n % 2 ^ d)) || (2 ^ d == 2 * (n % 2 ^ d) && n / 2 ^ d % 2 == 1)).toNat := by
  unfold Ieee.Toward.cut
  rw [Nat.min_eq_left h, Nat.shiftLeft_eq, Nat.one_mul]

theorem cut_le (n m d : Nat) (h1 : d ≤ n.log2 + 2) (h2 : d ≤ m.log2 + 2) (h : n ≤ m) : Ieee.Toward.even.cut false n d ≤ Ieee.Toward.even.cut false m d := by
  rw [cut_even _ n d h1, cut_even _ m d h2]
  have hp := Nat.two_pow_pos d
  generalize 2 ^ d = g at hp ⊢
  have hq : n / g ≤ m / g := Nat.div_le_div_right h
  have b1 : ∀ b : Bool, b.toNat ≤ 1 := fun b => by cases b <;> decide
  rcases Nat.lt_or_eq_of_le hq with hl | he
  · have := b1 (decide (g < 2 * (n % g)) || (g == 2 * (n % g) && n / g % 2 == 1)); omega
  · have en := Nat.div_add_mod n g
    have em := Nat.div_add_mod m g
    have hr : n % g ≤ m % g := by rw [← he] at em; omega
    rw [he]
    have : (decide (g < 2 * (n % g)) || (g == 2 * (n % g) && m / g % 2 == 1)).toNat ≤ (decide (g < 2 * (m % g)) || (g == 2 * (m % g) && m / g % 2 == 1)).toNat := by
      by_cases c1 : g < 2 * (m % g)
      · rw [decide_eq_true c1, Bool.true_or]; exact b1 _
      · rw [decide_eq_false (p := g < 2 * (n % g)) (by omega), decide_eq_false c1, Bool.false_or, Bool.false_or]
        by_cases c2 : g = 2 * (n % g)
        · have c3 : g = 2 * (m % g) := by omega
          rw [show (g == 2 * (n % g)) = true from by rw [beq_iff_eq]; exact c2, show (g == 2 * (m % g)) = true from by rw [beq_iff_eq]; exact c3]
          exact Nat.le_refl _
        · rw [show (g == 2 * (n % g)) = false from by rw [beq_eq_false_iff_ne]; exact c2, Bool.false_and]; exact Nat.zero_le _
    omega

theorem parts (x : Nat) (h0 : 0 < x) : x.log2 - 52 ≤ (x * 2 ^ (52 - x.log2)).log2 + 2 ∧ 4503599627370496 ≤ Ieee.Toward.even.cut false (x * 2 ^ (52 - x.log2)) (x.log2 - 52) ∧ Ieee.Toward.even.cut false (x * 2 ^ (52 - x.log2)) (x.log2 - 52) ≤ 9007199254740992 := by
  have hl := log2_mul x (52 - x.log2) (by omega)
  have hd : x.log2 - 52 ≤ (x * 2 ^ (52 - x.log2)).log2 + 2 := by omega
  refine ⟨hd, ?_⟩
  rw [cut_even _ _ _ hd]
  have hn : x * 2 ^ (52 - x.log2) ≠ 0 := by have := Nat.mul_pos h0 (Nat.two_pow_pos (52 - x.log2)); omega
  have a1 := Nat.log2_self_le hn
  have a2 := @Nat.lt_log2_self (x * 2 ^ (52 - x.log2))
  have e1 : (x * 2 ^ (52 - x.log2)).log2 = 52 + (x.log2 - 52) := by omega
  rw [e1] at a1 a2
  rw [Nat.pow_add] at a1
  rw [show 52 + (x.log2 - 52) + 1 = 53 + (x.log2 - 52) from by omega, Nat.pow_add] at a2
  generalize x * 2 ^ (52 - x.log2) = n at *
  have hp := Nat.two_pow_pos (x.log2 - 52)
  generalize 2 ^ (x.log2 - 52) = g at *
  have q1 : 4503599627370496 ≤ n / g := (Nat.le_div_iff_mul_le hp).2 a1
  have q2 : n / g < 9007199254740992 := (Nat.div_lt_iff_lt_mul hp).2 a2
  have b1 : ∀ b : Bool, b.toNat ≤ 1 := fun b => by cases b <;> decide
  have := b1 (decide (g < 2 * (n % g)) || (g == 2 * (n % g) && n / g % 2 == 1))
  omega

theorem rn_bd (x : Nat) (h0 : 0 < x) (h1 : x < 18446744073709551616) : 0 < rn x ∧ rn x < 9218868437227405312 := by
  obtain ⟨_, a, b⟩ := parts x h0
  have : x.log2 < 64 := (Nat.log2_lt (by omega)).2 (by omega)
  unfold rn
  omega

theorem nearest_nat (s : Bool) (x : Nat) (h0 : 0 < x) (h1 : x < 18446744073709551616) : Ieee.double.nearest s x 0 = word s (rn x) := by
  have hb := rn_bd x h0 h1
  rw [nearest_eq s x 0 (by omega)]
  have e : max ((0 : Int) + x.log2 - 52) (-1074) = (x.log2 : Int) - 52 := by omega
  rw [e]
  have e1 : ((x.log2 : Int) - 52 + 1074).toNat = x.log2 + 1022 := by omega
  have e2 : ((0 : Int) - ((x.log2 : Int) - 52)).toNat = 52 - x.log2 := by omega
  have e3 : ((x.log2 : Int) - 52 - 0).toNat = x.log2 - 52 := by omega
  rw [e1, e2, e3, Nat.shiftLeft_eq]
  show word s (min (rn x) 9218868437227405312) = _
  rw [Nat.min_eq_left (by omega)]

theorem rn_le (x y : Nat) (h0 : 0 < x) (h : x ≤ y) : rn x ≤ rn y := by
  obtain ⟨a1, a2, a3⟩ := parts x h0
  obtain ⟨b1, b2, b3⟩ := parts y (by omega)
  have hl : x.log2 ≤ y.log2 := (Nat.le_log2 (by omega)).2 (Nat.le_trans (Nat.log2_self_le (by omega)) h)
  unfold rn
  rcases Nat.lt_or_eq_of_le hl with hlt | he
  · omega
  · rw [he] at a1 a2 a3 ⊢
    have := cut_le (x * 2 ^ (52 - y.log2)) (y * 2 ^ (52 - y.log2)) (y.log2 - 52) a1 b1 (Nat.mul_le_mul_right _ h)
    omega

theorem rk_word (s : Bool) (r : Nat) (h : r ≤ 9218868437227405312) : rk (word s r) = if s then -(r : Int) - 1 else r := by
  unfold rk
  rw [cn_not (isN_word s r h)]
  unfold word
  cases s
  · show (if r < 9223372036854775808 then (r : Int) else -((r : Int) - 9223372036854775808) - 1) = r
    rw [if_pos (by omega)]
  · show (if 9223372036854775808 + r < 9223372036854775808 then ((9223372036854775808 + r : Nat) : Int) else -(((9223372036854775808 + r : Nat) : Int) - 9223372036854775808) - 1) = -(r : Int) - 1
    rw [if_neg (by omega)]; omega

theorem ofInt_word (n : Int) (h1 : -9223372036854775808 ≤ n) (h2 : n ≤ 9223372036854775807) : ∃ r, r < 9218868437227405312 ∧ floatOfInt .f64 n = word (decide (n < 0)) r ∧ (n = 0 → r = 0) ∧ (n ≠ 0 → r = rn n.natAbs) := by
  by_cases h0 : n = 0
  · subst h0; exact ⟨0, by decide, by decide, fun _ => rfl, fun h => absurd rfl h⟩
  · obtain ⟨a, b⟩ := rn_bd n.natAbs (by omega) (by omega)
    exact ⟨rn n.natAbs, b, by rw [ofInt_eq]; exact nearest_nat _ _ (by omega) (by omega), fun h => absurd h h0, fun _ => rfl⟩

theorem ofInt_lt (n : Int) (h1 : -9223372036854775808 ≤ n) (h2 : n ≤ 9223372036854775807) : floatOfInt .f64 n < 18446744073709551616 := by
  obtain ⟨r, a, b, _⟩ := ofInt_word n h1 h2
  rw [b]; exact word_lt _ _ (by omega)

theorem ofInt_notN (n : Int) (h1 : -9223372036854775808 ≤ n) (h2 : n ≤ 9223372036854775807) : isN (floatOfInt .f64 n) = false := by
  obtain ⟨r, a, b, _⟩ := ofInt_word n h1 h2
  rw [b]; exact isN_word _ _ (by omega)

/-- Reals of ints rise with these. -/
theorem ofInt_mono (m n : Int) (h : m < n) (h1 : -9223372036854775808 ≤ m) (h2 : n ≤ 9223372036854775807) : ord (floatOfInt .f64 m) (floatOfInt .f64 n) ≤ 0 := by
  obtain ⟨r, a, b, c, d⟩ := ofInt_word m h1 (by omega)
  obtain ⟨q, a', b', c', d'⟩ := ofInt_word n (by omega) h2
  have e1 := rk_word (decide (m < 0)) r (by omega)
  have e2 := rk_word (decide (n < 0)) q (by omega)
  have hle : rk (floatOfInt .f64 m) ≤ rk (floatOfInt .f64 n) := by
    rw [b, b', e1, e2]
    by_cases hm : m < 0
    · by_cases hn : n < 0
      · rw [decide_eq_true hm, decide_eq_true hn, if_pos rfl, if_pos rfl]
        have := rn_le n.natAbs m.natAbs (by omega) (by omega)
        have := d (by omega)
        have := d' (by omega)
        omega
      · rw [decide_eq_true hm, decide_eq_false hn, if_pos rfl, if_neg (by decide)]; omega
    · rw [decide_eq_false hm, decide_eq_false (p := n < 0) (by omega), if_neg (by decide), if_neg (by decide)]
      by_cases h0 : m = 0
      · have := c h0; omega
      · have := rn_le m.natAbs n.natAbs (by omega) (by omega)
        have := d h0
        have := d' (by omega)
        omega
  unfold ord
  split
  · omega
  · split <;> omega

/-- What a finite word is, cut towards zero. -/
def tz (r : Nat) : Nat := Ieee.Toward.zero.cut false ((r - place r * 4503599627370496) <<< (-1074 + (place r : Int)).toNat) (-(-1074 + (place r : Int))).toNat

theorem cut_zero_sign (s : Bool) (n d : Nat) : Ieee.Toward.zero.cut s n d = Ieee.Toward.zero.cut false n d := rfl

theorem cut_zero_le (n d : Nat) : Ieee.Toward.zero.cut false n d * 2 ^ d ≤ n := by
  unfold Ieee.Toward.cut
  simp only [Nat.shiftLeft_eq, Nat.one_mul]
  show (n / 2 ^ min d (n.log2 + 2) + 0) * 2 ^ d ≤ n
  rw [Nat.add_zero]
  by_cases h : d ≤ n.log2 + 2
  · rw [Nat.min_eq_left h]; exact Nat.div_mul_le_self _ _
  · rw [Nat.min_eq_right (by omega)]
    have a := @Nat.lt_log2_self n
    have : n / 2 ^ (n.log2 + 2) = 0 := by
      refine Nat.div_eq_of_lt (Nat.lt_of_lt_of_le a ?_)
      exact Nat.pow_le_pow_right (by decide) (by omega)
    rw [this, Nat.zero_mul]; exact Nat.zero_le _

theorem tz_le (r : Nat) : tz r * 2 ^ E74 ≤ fv r := by
  have hE := E74_eq
  unfold tz fv
  generalize r - place r * 4503599627370496 = k
  generalize place r = c
  by_cases h : E74 ≤ c
  · have e1 : (-1074 + (c : Int)).toNat = c - E74 := by omega
    have e2 : (-(-1074 + (c : Int))).toNat = 0 := by omega
    rw [e1, e2, Nat.shiftLeft_eq]
    have := cut_zero_le (k * 2 ^ (c - E74)) 0
    rw [Nat.pow_zero, Nat.mul_one] at this
    have h2 := Nat.mul_le_mul_right (2 ^ E74) this
    rw [Nat.mul_assoc k, ← Nat.pow_add, show c - E74 + E74 = c from by omega] at h2
    exact h2
  · have e1 : (-1074 + (c : Int)).toNat = 0 := by omega
    have e2 : (-(-1074 + (c : Int))).toNat = E74 - c := by omega
    rw [e1, e2, Nat.shiftLeft_zero]
    have := cut_zero_le k (E74 - c)
    have h2 := Nat.mul_le_mul_right (2 ^ c) this
    rw [Nat.mul_assoc, ← Nat.pow_add, show E74 - c + c = E74 from by omega] at h2
    exact h2

theorem tz_exact (r x : Nat) (h : fv r = x * 2 ^ E74) : tz r = x := by
  have hE := E74_eq
  have h0 : ∀ d, Ieee.Toward.zero.cut false 0 d = 0 := by
    intro d
    have := cut_zero_le 0 d
    have hp := Nat.two_pow_pos d
    rcases Nat.eq_zero_or_pos (Ieee.Toward.zero.cut false 0 d) with e | e
    · exact e
    · have := Nat.mul_pos e hp; omega
  unfold tz
  unfold fv at h
  generalize r - place r * 4503599627370496 = k at *
  generalize place r = c at *
  by_cases hc : E74 ≤ c
  · have e1 : (-1074 + (c : Int)).toNat = c - E74 := by omega
    have e2 : (-(-1074 + (c : Int))).toNat = 0 := by omega
    rw [e1, e2, Nat.shiftLeft_eq]
    have h3 : k * 2 ^ (c - E74) = x := by
      rw [show 2 ^ c = 2 ^ (c - E74) * 2 ^ E74 from by rw [← Nat.pow_add]; congr 1; omega, ← Nat.mul_assoc] at h
      exact Nat.eq_of_mul_eq_mul_right (Nat.two_pow_pos _) h
    rw [h3]
    rcases Nat.eq_zero_or_pos x with e | e
    · rw [e]; exact h0 0
    · have := cut_exact .zero false x 0 e; simpa using this
  · have e1 : (-1074 + (c : Int)).toNat = 0 := by omega
    have e2 : (-(-1074 + (c : Int))).toNat = E74 - c := by omega
    rw [e1, e2, Nat.shiftLeft_zero]
    have h3 : k = x * 2 ^ (E74 - c) := by
      rw [show 2 ^ E74 = 2 ^ (E74 - c) * 2 ^ c from by rw [← Nat.pow_add]; congr 1; omega, ← Nat.mul_assoc] at h
      exact Nat.eq_of_mul_eq_mul_right (Nat.two_pow_pos _) h
    rw [h3]
    rcases Nat.eq_zero_or_pos x with e | e
    · rw [e, Nat.zero_mul]; exact h0 _
    · exact cut_exact .zero false x _ e

def tv (a : Nat) : Int := if sgn a then -(tz (low a) : Int) else tz (low a)

theorem toInt_fin (a : Nat) (h : low a < 9218868437227405312) : (Ieee.double.read a).toInt .zero = some (tv a) := by
  rw [read_num a h]
  unfold Ieee.Datum.toInt Ieee.Datum.integral
  simp only [Ieee.signed, Nat.shiftLeft_zero, Option.some.injEq]
  rw [cut_zero_sign]
  rfl

def inR (a : Nat) : Bool := !isN a && (decide (-4890909195324358656 ≤ key a) && decide (key a < 4890909195324358656))

theorem key_eq (c : Nat) : key c = if sgn c then -(low c : Int) else low c := rfl

theorem fv63 : fv 4890909195324358656 = 9223372036854775808 * 2 ^ E74 := by
  have hE := E74_eq
  have e : place 4890909195324358656 = 11 + E74 := by unfold place; omega
  unfold fv
  rw [e, Nat.pow_add, ← Nat.mul_assoc]
  congr 1

theorem val_in (a : Nat) (h : inR a = true) : floatToIntVal .f64 a .i64 = some (tv a) := by
  unfold inR at h
  simp only [Bool.and_eq_true, Bool.not_eq_true', decide_eq_true_eq] at h
  obtain ⟨h1, h2, h3⟩ := h
  rw [key_eq] at h2 h3
  have hlow : low a ≤ 4890909195324358656 ∧ (sgn a = false → low a < 4890909195324358656) := by
    cases hs : sgn a
    · rw [hs] at h2 h3; simp at h2 h3; exact ⟨by omega, fun _ => by omega⟩
    · rw [hs] at h2 h3; simp at h2 h3; exact ⟨by omega, fun x => by cases x⟩
  have hp := Nat.two_pow_pos E74
  have t1 := tz_le (low a)
  have b1 : tz (low a) ≤ 9223372036854775808 := by
    have : fv (low a) ≤ fv 4890909195324358656 := by
      rcases Nat.lt_or_eq_of_le hlow.1 with k | k
      · exact Nat.le_of_lt (fv_lt k)
      · rw [k]; exact Nat.le_refl _
    rw [fv63] at this
    exact Nat.le_of_mul_le_mul_right (Nat.le_trans t1 this) hp
  have b2 : sgn a = false → tz (low a) < 9223372036854775808 := by
    intro hs
    have := fv_lt (hlow.2 hs)
    rw [fv63] at this
    exact Nat.lt_of_mul_lt_mul_right (Nat.lt_of_le_of_lt t1 this)
  unfold floatToIntVal
  have : (FloatKind.f64.decode a).toInt .zero = some (tv a) := toInt_fin a (by omega)
  rw [this]
  have m1 : IntKind.i64.min = -9223372036854775808 := by decide
  have m2 : IntKind.i64.max = 9223372036854775807 := by decide
  rw [m1, m2]
  have : -9223372036854775808 ≤ tv a ∧ tv a ≤ 9223372036854775807 := by
    unfold tv
    cases hs : sgn a
    · have := b2 hs; simp; omega
    · simp; omega
  simp only [this, and_self, if_true]

theorem inR_ofInt (n : Int) (h : n.natAbs ≤ 9007199254740992) : inR (floatOfInt .f64 n) = true ∧ tv (floatOfInt .f64 n) = n := by
  obtain ⟨s, r, a, b, c, d⟩ := ofInt_small n h
  have hlow := low_word s r (by omega)
  have hsg := sgn_word s r (by omega)
  have hr : r < 4890909195324358656 := by
    refine fv_lt_iff.1 ?_
    rw [c, fv63]
    exact Nat.mul_lt_mul_of_pos_right (by omega) (Nat.two_pow_pos _)
  rw [b]
  constructor
  · unfold inR
    rw [isN_word s r (by omega), key_eq, hlow, hsg]
    cases s <;> simp <;> omega
  · unfold tv
    rw [hlow, hsg, tz_exact r _ c]
    cases s
    · have : ¬ n < 0 := by intro k; have := d.2 k; cases this
      simp; omega
    · have : n < 0 := d.1 rfl
      simp; omega

end Flo
end Go.Proofs.YtcaailiijmjdlaaGreatDoor
