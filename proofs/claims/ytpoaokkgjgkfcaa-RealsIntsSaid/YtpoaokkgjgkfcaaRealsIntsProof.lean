/- RealsInts returns true for every two numbers of 64 bits, and leaves its arguments as they were. No condition. -/
import Derived.Test.YtpoaokkgjgkfcaaRows
import Derived.Test.YtpoaokkgjgkfcaaToi
import Derived.WalkKit
import Derived.ProofKit
import Derived.OpenShut
import Derived.ShutString
namespace Go.Proofs.Ytpoaokkgjgkfcaa.realsInts
open Go.ChangeShapes Go.WideShapes Go.ChangeAt Go.RowKit
open Go.ChangeMaps (open_string shut_string)
open Flo
set_option linter.unusedVariables false
set_option linter.unusedSimpArgs false

theorem own : ownKnob Try.prog.godebug = none := by kernel_rfl

theorem fvE (r x : Nat) (h : fv r = x * 2 ^ E74) (hx : 0 < x) : 0 < r := by
  rcases Nat.eq_zero_or_pos r with e | e
  · subst e; rw [fv_zero] at h
    have := Nat.mul_pos hx (Nat.two_pow_pos E74); omega
  · exact e

theorem add_ints (a b : Int) (ha : a.natAbs ≤ 67108864) (hb : b.natAbs ≤ 67108864) (ha0 : a ≠ 0) : doN .add (floatOfInt .f64 a) (floatOfInt .f64 b) = floatOfInt .f64 (a + b) := by
  obtain ⟨s1, r1, l1, e1, f1, g1⟩ := ofInt_small a (by omega)
  obtain ⟨s2, r2, l2, e2, f2, g2⟩ := ofInt_small b (by omega)
  obtain ⟨v1, _, _⟩ := sv_ofInt a (by omega)
  obtain ⟨v2, _, _⟩ := sv_ofInt b (by omega)
  have lo1 : low (floatOfInt .f64 a) < 9218868437227405312 := by rw [e1, low_word _ _ (by omega)]; exact l1
  have lo2 : low (floatOfInt .f64 b) < 9218868437227405312 := by rw [e2, low_word _ _ (by omega)]; exact l2
  have hT := Nat.two_pow_pos E74
  have hs : sv (floatOfInt .f64 a) + sv (floatOfInt .f64 b) = (a + b) * (2 ^ E74 : Nat) := by rw [v1, v2, Int.add_mul]
  by_cases h0 : a + b = 0
  · rw [add_cancel _ _ lo1 lo2 (by rw [hs, h0, Int.zero_mul]), h0, e1, e2, sgn_word _ _ (by omega), sgn_word _ _ (by omega)]
    have : (s1 && s2) = false := by
      cases s1
      · rfl
      · cases s2
        · rfl
        · have := g1.1 rfl; have := g2.1 rfl; omega
    rw [this]; decide
  · obtain ⟨s, r, l, e, f, g⟩ := ofInt_small (a + b) (by omega)
    have hr := fvE r _ f (by omega)
    rw [add_exact _ _ lo1 lo2 r hr l (by rw [hs, Int.natAbs_mul, f, Int.natAbs_natCast]), e, hs]
    have : decide ((a + b) * ((2 ^ E74 : Nat) : Int) < 0) = s := by
      generalize 2 ^ E74 = T at hT
      have hT' : (0 : Int) < (T : Int) := by omega
      cases s
      · have h1 : ¬ a + b < 0 := by intro k; have := g.2 k; cases this
        rw [decide_eq_false_iff_not]
        have := Int.mul_nonneg (a := a + b) (by omega) (Int.le_of_lt hT'); omega
      · have h1 := g.1 rfl
        rw [decide_eq_true_eq]
        exact Int.mul_neg_of_neg_of_pos h1 hT'
    rw [this]

theorem flip_ofInt (b : Int) (hb : b.natAbs ≤ 67108864) (h0 : b ≠ 0) : flip (floatOfInt .f64 b) = floatOfInt .f64 (-b) := by
  have hr := rn_bd b.natAbs (by omega) (by omega)
  rw [ofInt_eq, ofInt_eq, nearest_nat _ _ (by omega) (by omega), nearest_nat _ _ (by omega) (by omega), flip_word _ _ (by omega), Int.natAbs_neg]
  congr 1
  rw [Bool.eq_iff_iff]; simp; omega

theorem sub_ints (a b : Int) (ha : a.natAbs ≤ 33554432) (hb : b.natAbs ≤ 33554432) (ha0 : a ≠ 0) (hb0 : b ≠ 0) : doN .sub (floatOfInt .f64 a) (floatOfInt .f64 b) = floatOfInt .f64 (a - b) := by
  rw [doN_sub _ _ (sv_ofInt b (by omega)).2.2, flip_ofInt b (by omega) hb0, add_ints a (-b) (by omega) (by omega) ha0, Int.sub_eq_add_neg]

theorem mul_ints (a b : Int) (ha : a.natAbs ≤ 33554432) (hb : b.natAbs ≤ 33554432) (ha0 : a ≠ 0) (hb0 : b ≠ 0) : doN .mul (floatOfInt .f64 a) (floatOfInt .f64 b) = floatOfInt .f64 (a * b) := by
  obtain ⟨s1, r1, l1, e1, f1, g1⟩ := ofInt_small a (by omega)
  obtain ⟨s2, r2, l2, e2, f2, g2⟩ := ofInt_small b (by omega)
  have lo1 : low (floatOfInt .f64 a) = r1 := by rw [e1, low_word _ _ (by omega)]
  have lo2 : low (floatOfInt .f64 b) = r2 := by rw [e2, low_word _ _ (by omega)]
  have hm : (a * b).natAbs ≤ 9007199254740992 := by
    rw [Int.natAbs_mul]
    exact Nat.le_trans (Nat.mul_le_mul ha hb) (by decide)
  have hmp : 0 < (a * b).natAbs := by rw [Int.natAbs_mul]; exact Nat.mul_pos (by omega) (by omega)
  obtain ⟨s, r, l, e, f, g⟩ := ofInt_small (a * b) hm
  have hr := fvE r _ f hmp
  rw [mul_exact _ _ (by omega) (by omega) r hr l ?_, e, e1, e2, sgn_word _ _ (by omega), sgn_word _ _ (by omega)]
  · congr 1
    have p1 : s1 = true ∨ s1 = false := by cases s1 <;> simp
    have p2 : s2 = true ∨ s2 = false := by cases s2 <;> simp
    have n1 : s1 = false → 0 < a := by
      intro k; rcases Int.lt_trichotomy a 0 with q | q | q
      · have := g1.2 q; rw [k] at this; cases this
      · exact absurd q ha0
      · exact q
    have n2 : s2 = false → 0 < b := by
      intro k; rcases Int.lt_trichotomy b 0 with q | q | q
      · have := g2.2 q; rw [k] at this; cases this
      · exact absurd q hb0
      · exact q
    have ns : ¬ a * b < 0 → s = false := by
      intro k; cases s
      · rfl
      · exact absurd (g.1 rfl) k
    rcases p1 with q1 | q1 <;> rcases p2 with q2 | q2
    · have := Int.mul_pos_of_neg_of_neg (g1.1 q1) (g2.1 q2)
      rw [q1, q2, ns (by omega)]; rfl
    · have := Int.mul_neg_of_neg_of_pos (g1.1 q1) (n2 q2)
      rw [q1, q2, g.2 this]; rfl
    · have := Int.mul_neg_of_pos_of_neg (n1 q1) (g2.1 q2)
      rw [q1, q2, g.2 this]; rfl
    · have := Int.mul_pos (n1 q1) (n2 q2)
      rw [q1, q2, ns (by omega)]; rfl
  · rw [lo1, lo2, f1, f2, f, Int.natAbs_mul]
    generalize 2 ^ E74 = T
    rw [Nat.mul_assoc, Nat.mul_left_comm T, ← Nat.mul_assoc a.natAbs, ← Nat.mul_assoc (a.natAbs * b.natAbs)]

theorem cmp_ints (a b : Int) (ha : a.natAbs ≤ 33554432) (hb : b.natAbs ≤ 33554432) : less (floatOfInt .f64 a) (floatOfInt .f64 b) = decide (a < b) ∧ equal (floatOfInt .f64 a) (floatOfInt .f64 b) = (a == b) := by
  obtain ⟨v1, n1, _⟩ := sv_ofInt a (by omega)
  obtain ⟨v2, n2, _⟩ := sv_ofInt b (by omega)
  have hT := Nat.two_pow_pos E74
  have k1 := sv_lt_iff (floatOfInt .f64 a) (floatOfInt .f64 b)
  have k2 := sv_lt_iff (floatOfInt .f64 b) (floatOfInt .f64 a)
  rw [v1, v2] at k1 k2
  have hT' : (0 : Int) < ((2 ^ E74 : Nat) : Int) := by omega
  rw [Int.mul_lt_mul_right hT'] at k1 k2
  unfold less equal
  rw [n1, n2]
  constructor
  · rw [Bool.eq_iff_iff]; simp; omega
  · rw [Bool.eq_iff_iff]; simp; omega
theorem prod_bd (a b : Int) (ha : a.natAbs ≤ 33554432) (hb : b.natAbs ≤ 33554432) : -1125899906842624 ≤ a * b ∧ a * b ≤ 1125899906842624 := by
  have : (a * b).natAbs ≤ 1125899906842624 := by
    rw [Int.natAbs_mul]
    exact Nat.le_trans (Nat.mul_le_mul ha hb) (by decide)
  omega
set_option maxHeartbeats 4000000 in
theorem walk (a0 : Int) (a1 : Int) (w0 : (Lit.int .i64 a0).wf = true) (w1 : (Lit.int .i64 a1).wf = true) (w : World) :
    Calls Try.prog 5 #[.int .i64 a0, .int .i64 a1] w fun e w' => e = .returned (.bool true) ∧ Grown w w' := by
  obtain ⟨b1, b2⟩ := bounds_i64 w0
  obtain ⟨b3, b4⟩ := bounds_i64 w1
  have ha : (a0 / 274877906944).natAbs ≤ 33554432 := by omega
  have hb : (a1 / 274877906944).natAbs ≤ 33554432 := by omega
  have hc : (a0 / 1024).natAbs ≤ 9007199254740992 := by omega
  have hlt0 := ofInt_lt a0 (by omega) (by omega)
  have hlt1 := ofInt_lt a1 (by omega) (by omega)
  obtain ⟨hl, he⟩ := cmp_ints _ _ ha hb
  have p1 : -33554432 ≤ a0 / 274877906944 := by omega
  have p2 : a0 / 274877906944 ≤ 33554432 := by omega
  have p3 : -33554432 ≤ a1 / 274877906944 := by omega
  have p4 : a1 / 274877906944 ≤ 33554432 := by omega
  obtain ⟨p5, p6⟩ := prod_bd _ _ ha hb
  by_cases h : a0 < a1
  · have hm := ofInt_mono a0 a1 h (by omega) (by omega)
    by_cases h1 : a0 / 274877906944 = 0
    · have q1 : (a0 / 274877906944 != 0) = false := by simpa using h1
      clear h1
      go_enter Try.func5, Try.ntmps5
      go_wp2_with (first | (go_at_call 18; refine (awake_c _).mono ?_; rintro e w' ⟨rfl, hg⟩) | (go_at_call 20; refine (ofInt_c _ _).mono ?_; rintro e w' ⟨rfl, rfl⟩) | (go_at_call 16; refine (ordR_c _ _ (by assumption) (by assumption) _).mono ?_; rintro e w' ⟨rfl, hg⟩) | (go_at_call 21; refine (to_c _ (by omega) _).mono ?_; rintro e w' ⟨rfl, rfl⟩) | (go_at_call 12; refine (lessR_c _ _ _).mono ?_; rintro e w' ⟨rfl, rfl⟩) | (go_at_call 14; refine (equalR_c _ _ _).mono ?_; rintro e w' ⟨rfl, rfl⟩))
      go_ret
      refine ⟨rfl, ?_⟩
      repeat (first | assumption | exact Grown.refl _ | refine grown_trans ?_ (by assumption))
    · have q1 : (a0 / 274877906944 != 0) = true := by simpa using h1
      by_cases h2 : a1 / 274877906944 = 0
      · have q2 : (a1 / 274877906944 != 0) = false := by simpa using h2
        clear h1 h2
        go_enter Try.func5, Try.ntmps5
        go_wp2_with (first | (go_at_call 18; refine (awake_c _).mono ?_; rintro e w' ⟨rfl, hg⟩) | (go_at_call 20; refine (ofInt_c _ _).mono ?_; rintro e w' ⟨rfl, rfl⟩) | (go_at_call 16; refine (ordR_c _ _ (by assumption) (by assumption) _).mono ?_; rintro e w' ⟨rfl, hg⟩) | (go_at_call 21; refine (to_c _ (by omega) _).mono ?_; rintro e w' ⟨rfl, rfl⟩) | (go_at_call 12; refine (lessR_c _ _ _).mono ?_; rintro e w' ⟨rfl, rfl⟩) | (go_at_call 14; refine (equalR_c _ _ _).mono ?_; rintro e w' ⟨rfl, rfl⟩))
        go_ret
        refine ⟨rfl, ?_⟩
        repeat (first | assumption | exact Grown.refl _ | refine grown_trans ?_ (by assumption))
      · have q2 : (a1 / 274877906944 != 0) = true := by simpa using h2
        have HA := Lib.hid (add_ints _ _ (by omega : (a0 / 274877906944).natAbs ≤ 67108864) (by omega : (a1 / 274877906944).natAbs ≤ 67108864) h1)
        have HS := Lib.hid (sub_ints _ _ ha hb h1 h2)
        have HM := Lib.hid (mul_ints _ _ ha hb h1 h2)
        clear h1 h2
        go_enter Try.func5, Try.ntmps5
        go_wp2_with (first | (go_at_call 18; refine (awake_c _).mono ?_; rintro e w' ⟨rfl, hg⟩) | (go_at_call 20; refine (ofInt_c _ _).mono ?_; rintro e w' ⟨rfl, rfl⟩) | (go_at_call 16; refine (ordR_c _ _ (by assumption) (by assumption) _).mono ?_; rintro e w' ⟨rfl, hg⟩) | (go_at_call 21; refine (to_c _ (by omega) _).mono ?_; rintro e w' ⟨rfl, rfl⟩) | (go_at_call 12; refine (lessR_c _ _ _).mono ?_; rintro e w' ⟨rfl, rfl⟩) | (go_at_call 14; refine (equalR_c _ _ _).mono ?_; rintro e w' ⟨rfl, rfl⟩))
        refine (does_t ⟨#[43]⟩ .add (by kernel_rfl) _ _ _ HA.out _).mono ?_
        rintro e w' ⟨rfl, hg⟩
        go_wp2_with (first | (go_at_call 18; refine (awake_c _).mono ?_; rintro e w' ⟨rfl, hg⟩) | (go_at_call 20; refine (ofInt_c _ _).mono ?_; rintro e w' ⟨rfl, rfl⟩) | (go_at_call 16; refine (ordR_c _ _ (by assumption) (by assumption) _).mono ?_; rintro e w' ⟨rfl, hg⟩) | (go_at_call 21; refine (to_c _ (by omega) _).mono ?_; rintro e w' ⟨rfl, rfl⟩) | (go_at_call 12; refine (lessR_c _ _ _).mono ?_; rintro e w' ⟨rfl, rfl⟩) | (go_at_call 14; refine (equalR_c _ _ _).mono ?_; rintro e w' ⟨rfl, rfl⟩))
        refine (does_t ⟨#[45]⟩ .sub (by kernel_rfl) _ _ _ HS.out _).mono ?_
        rintro e w' ⟨rfl, hg⟩
        go_wp2_with (first | (go_at_call 18; refine (awake_c _).mono ?_; rintro e w' ⟨rfl, hg⟩) | (go_at_call 20; refine (ofInt_c _ _).mono ?_; rintro e w' ⟨rfl, rfl⟩) | (go_at_call 16; refine (ordR_c _ _ (by assumption) (by assumption) _).mono ?_; rintro e w' ⟨rfl, hg⟩) | (go_at_call 21; refine (to_c _ (by omega) _).mono ?_; rintro e w' ⟨rfl, rfl⟩) | (go_at_call 12; refine (lessR_c _ _ _).mono ?_; rintro e w' ⟨rfl, rfl⟩) | (go_at_call 14; refine (equalR_c _ _ _).mono ?_; rintro e w' ⟨rfl, rfl⟩))
        refine (does_t ⟨#[42]⟩ .mul (by kernel_rfl) _ _ _ HM.out _).mono ?_
        rintro e w' ⟨rfl, hg⟩
        go_wp2_with (first | (go_at_call 18; refine (awake_c _).mono ?_; rintro e w' ⟨rfl, hg⟩) | (go_at_call 20; refine (ofInt_c _ _).mono ?_; rintro e w' ⟨rfl, rfl⟩) | (go_at_call 16; refine (ordR_c _ _ (by assumption) (by assumption) _).mono ?_; rintro e w' ⟨rfl, hg⟩) | (go_at_call 21; refine (to_c _ (by omega) _).mono ?_; rintro e w' ⟨rfl, rfl⟩) | (go_at_call 12; refine (lessR_c _ _ _).mono ?_; rintro e w' ⟨rfl, rfl⟩) | (go_at_call 14; refine (equalR_c _ _ _).mono ?_; rintro e w' ⟨rfl, rfl⟩))
        go_ret
        refine ⟨rfl, ?_⟩
        repeat (first | assumption | exact Grown.refl _ | refine grown_trans ?_ (by assumption))
  · have h' : a1 ≤ a0 := by omega
    by_cases h1 : a0 / 274877906944 = 0
    · have q1 : (a0 / 274877906944 != 0) = false := by simpa using h1
      clear h1
      go_enter Try.func5, Try.ntmps5
      go_wp2_with (first | (go_at_call 18; refine (awake_c _).mono ?_; rintro e w' ⟨rfl, hg⟩) | (go_at_call 20; refine (ofInt_c _ _).mono ?_; rintro e w' ⟨rfl, rfl⟩) | (go_at_call 16; refine (ordR_c _ _ (by assumption) (by assumption) _).mono ?_; rintro e w' ⟨rfl, hg⟩) | (go_at_call 21; refine (to_c _ (by omega) _).mono ?_; rintro e w' ⟨rfl, rfl⟩) | (go_at_call 12; refine (lessR_c _ _ _).mono ?_; rintro e w' ⟨rfl, rfl⟩) | (go_at_call 14; refine (equalR_c _ _ _).mono ?_; rintro e w' ⟨rfl, rfl⟩))
      go_ret
      refine ⟨rfl, ?_⟩
      repeat (first | assumption | exact Grown.refl _ | refine grown_trans ?_ (by assumption))
    · have q1 : (a0 / 274877906944 != 0) = true := by simpa using h1
      by_cases h2 : a1 / 274877906944 = 0
      · have q2 : (a1 / 274877906944 != 0) = false := by simpa using h2
        clear h1 h2
        go_enter Try.func5, Try.ntmps5
        go_wp2_with (first | (go_at_call 18; refine (awake_c _).mono ?_; rintro e w' ⟨rfl, hg⟩) | (go_at_call 20; refine (ofInt_c _ _).mono ?_; rintro e w' ⟨rfl, rfl⟩) | (go_at_call 16; refine (ordR_c _ _ (by assumption) (by assumption) _).mono ?_; rintro e w' ⟨rfl, hg⟩) | (go_at_call 21; refine (to_c _ (by omega) _).mono ?_; rintro e w' ⟨rfl, rfl⟩) | (go_at_call 12; refine (lessR_c _ _ _).mono ?_; rintro e w' ⟨rfl, rfl⟩) | (go_at_call 14; refine (equalR_c _ _ _).mono ?_; rintro e w' ⟨rfl, rfl⟩))
        go_ret
        refine ⟨rfl, ?_⟩
        repeat (first | assumption | exact Grown.refl _ | refine grown_trans ?_ (by assumption))
      · have q2 : (a1 / 274877906944 != 0) = true := by simpa using h2
        have HA := Lib.hid (add_ints _ _ (by omega : (a0 / 274877906944).natAbs ≤ 67108864) (by omega : (a1 / 274877906944).natAbs ≤ 67108864) h1)
        have HS := Lib.hid (sub_ints _ _ ha hb h1 h2)
        have HM := Lib.hid (mul_ints _ _ ha hb h1 h2)
        clear h1 h2
        go_enter Try.func5, Try.ntmps5
        go_wp2_with (first | (go_at_call 18; refine (awake_c _).mono ?_; rintro e w' ⟨rfl, hg⟩) | (go_at_call 20; refine (ofInt_c _ _).mono ?_; rintro e w' ⟨rfl, rfl⟩) | (go_at_call 16; refine (ordR_c _ _ (by assumption) (by assumption) _).mono ?_; rintro e w' ⟨rfl, hg⟩) | (go_at_call 21; refine (to_c _ (by omega) _).mono ?_; rintro e w' ⟨rfl, rfl⟩) | (go_at_call 12; refine (lessR_c _ _ _).mono ?_; rintro e w' ⟨rfl, rfl⟩) | (go_at_call 14; refine (equalR_c _ _ _).mono ?_; rintro e w' ⟨rfl, rfl⟩))
        refine (does_t ⟨#[43]⟩ .add (by kernel_rfl) _ _ _ HA.out _).mono ?_
        rintro e w' ⟨rfl, hg⟩
        go_wp2_with (first | (go_at_call 18; refine (awake_c _).mono ?_; rintro e w' ⟨rfl, hg⟩) | (go_at_call 20; refine (ofInt_c _ _).mono ?_; rintro e w' ⟨rfl, rfl⟩) | (go_at_call 16; refine (ordR_c _ _ (by assumption) (by assumption) _).mono ?_; rintro e w' ⟨rfl, hg⟩) | (go_at_call 21; refine (to_c _ (by omega) _).mono ?_; rintro e w' ⟨rfl, rfl⟩) | (go_at_call 12; refine (lessR_c _ _ _).mono ?_; rintro e w' ⟨rfl, rfl⟩) | (go_at_call 14; refine (equalR_c _ _ _).mono ?_; rintro e w' ⟨rfl, rfl⟩))
        refine (does_t ⟨#[45]⟩ .sub (by kernel_rfl) _ _ _ HS.out _).mono ?_
        rintro e w' ⟨rfl, hg⟩
        go_wp2_with (first | (go_at_call 18; refine (awake_c _).mono ?_; rintro e w' ⟨rfl, hg⟩) | (go_at_call 20; refine (ofInt_c _ _).mono ?_; rintro e w' ⟨rfl, rfl⟩) | (go_at_call 16; refine (ordR_c _ _ (by assumption) (by assumption) _).mono ?_; rintro e w' ⟨rfl, hg⟩) | (go_at_call 21; refine (to_c _ (by omega) _).mono ?_; rintro e w' ⟨rfl, rfl⟩) | (go_at_call 12; refine (lessR_c _ _ _).mono ?_; rintro e w' ⟨rfl, rfl⟩) | (go_at_call 14; refine (equalR_c _ _ _).mono ?_; rintro e w' ⟨rfl, rfl⟩))
        refine (does_t ⟨#[42]⟩ .mul (by kernel_rfl) _ _ _ HM.out _).mono ?_
        rintro e w' ⟨rfl, hg⟩
        go_wp2_with (first | (go_at_call 18; refine (awake_c _).mono ?_; rintro e w' ⟨rfl, hg⟩) | (go_at_call 20; refine (ofInt_c _ _).mono ?_; rintro e w' ⟨rfl, rfl⟩) | (go_at_call 16; refine (ordR_c _ _ (by assumption) (by assumption) _).mono ?_; rintro e w' ⟨rfl, hg⟩) | (go_at_call 21; refine (to_c _ (by omega) _).mono ?_; rintro e w' ⟨rfl, rfl⟩) | (go_at_call 12; refine (lessR_c _ _ _).mono ?_; rintro e w' ⟨rfl, rfl⟩) | (go_at_call 14; refine (equalR_c _ _ _).mono ?_; rintro e w' ⟨rfl, rfl⟩))
        go_ret
        refine ⟨rfl, ?_⟩
        repeat (first | assumption | exact Grown.refl _ | refine grown_trans ?_ (by assumption))

set_option maxRecDepth 100000 in
theorem lifted (os : Os) (started : os.Started) (H : Type) (enc : TypeId × Value → H) :
    ReturnsInHanded {} Try.checked os 5 .any (Rows.realsIntsSpec.pre6 enc Try.prog Try.f5 Rows.realsIntsRow.domain false) (Rows.realsIntsSpec.post enc Try.prog Try.f5 false true false false) := by
  refine returnsInHanded_of_change (C := Try.checked) own started (by kernel_rfl) Try.func5
    (ChangeSpec.witness6 (enc := enc) (C := Try.checked) false ⟨#[], #[.int .i64 0, .int .i64 0], []⟩ 8 (by kernel_rfl) (by kernel_rfl) (by kernel_rfl) (by kernel_rfl)) ?_
  intro W base args ds gs before hval0 hW hcnd _
  have hval : ∀ (j : Nat) t v, Try.f5.params[j]? = some t → args[j]? = some v → Value.okWide Try.prog W .any base t v := hval0
  have hW' := hW
  obtain ⟨p, q, hA0, hV, rfl, hfz, hnd⟩ := hW
  have hA : DataW.TrodAll enc Try.prog W 0 (fun _ => true) true Try.f5.params.toList args.toList ds p := hA0
  rw [Try.params5] at hA hval
  obtain ⟨v0, vs0, d0, ds0, p0, q0, hargs, rfl, rfl, h0, r0⟩ := trodAll_cons hA
  obtain ⟨v1, vs1, d1, ds1, p1, q1, rfl, rfl, rfl, h1, r1⟩ := trodAll_cons r0
  obtain ⟨rfl, rfl, rfl⟩ := trodAll_nil r1
  obtain rfl : args = #[v0, v1] := by cases args; simp_all
  obtain ⟨rfl, rfl⟩ := trodVars_none hV
  obtain ⟨a0, rfl, rfl, rfl, w0⟩ := open_int Try.underlying3 (hval 0 3 v0 rfl rfl) h0
  obtain ⟨a1, rfl, rfl, rfl, w1⟩ := open_int Try.underlying3 (hval 1 3 v1 rfl rfl) h1
  clear hA0 hval0
  simp only [List.append_nil] at hW'
  refine (walk a0 a1 w0 w1 W).mono fun e W' ⟨he, hg⟩ => ?_
  subst he
  exact ⟨_, rfl, post_of_same (pa := []) (pv := []) hW' (fun _ _ _ => (trodAll_cons_mk (shut_bool Try.underlying4 _) trodAll_mk0)) (fun sp _ => (trodAll_cons_mk (shut_int Try.underlying3 w0) (trodAll_cons_mk (shut_int Try.underlying3 w1) trodAll_mk0))) (fun _ _ => rfl) rfl
    (hg.frame _) hg.2.1 (ok_one (by kernel_rfl) rfl (okWide_bool_mk Try.underlying4 _))⟩

theorem over : Rows.realsIntsRow.holds Try.pinned (OpenSpec.ofChange Rows.realsIntsSpec) :=
  OpenClaim.holds_of_wide 5 Try.f5 rfl rfl rfl rfl rfl rfl rfl ⟨rfl, rfl, rfl, rfl, rfl⟩ rfl rfl rfl rfl rfl (by kernel_rfl) Try.func5 (by kernel_rfl)
    (of_decide_eq_true (by kernel_rfl)) (by unfold Func.isWrapper; first | (rw [if_pos (by decide +kernel)]; kernel_rfl) | (rw [if_neg (by decide +kernel)]; exact ⟨rfl, rfl⟩))
    (fun os started H enc _ => lifted os started H enc)

theorem proved : Rows.RealsIntsSaid :=
  over
#print axioms proved
end Go.Proofs.Ytpoaokkgjgkfcaa.realsInts
