/- RealsOrder returns true for every three words of 64 bits, and leaves its arguments as they were. No condition. -/
import Derived.Test.YtpoaokkgjgkfcaaRows
import Derived.Test.YtpoaokkgjgkfcaaAwk
import Derived.WalkKit
import Derived.ProofKit
import Derived.OpenShut
import Derived.ShutString
namespace Go.Proofs.Ytpoaokkgjgkfcaa.realsOrder
open Go.ChangeShapes Go.WideShapes Go.ChangeAt Go.RowKit
open Go.ChangeMaps (open_string shut_string)
open Flo
set_option linter.unusedVariables false
set_option linter.unusedSimpArgs false

theorem own : ownKnob Try.prog.godebug = none := by kernel_rfl

theorem number_c (a : Nat) (h : a < 18446744073709551616) (w : World) : Calls Try.prog 19 #[.int .u64 a] w fun e w' => e = .returned (.bool (!isN a)) ∧ w = w' := by
  go_enter Try.func19, Try.ntmps19
  go_wp2
  go_ret
  refine ⟨ret_bool ?_, rfl⟩
  rw [and_low a h]
  unfold isN
  rw [Bool.eq_iff_iff]; simp; omega

theorem key_cases (c : Nat) (hc : c < 18446744073709551616) : key c = if c < 9223372036854775808 then (c : Int) else -((c : Int) - 9223372036854775808) := by
  unfold key sgn low
  by_cases h : c < 9223372036854775808
  · rw [if_pos h, if_neg (by rw [beq_iff_eq]; omega)]; omega
  · rw [if_neg h, if_pos (by rw [beq_iff_eq]; omega)]; omega

theorem pair (a b : Nat) (ha : a < 18446744073709551616) (hb : b < 18446744073709551616) :
    (isN a = true ∧ isN b = true ∧ ord a b = 0 ∧ ord b a = 0 ∧ less a b = false ∧ less b a = false ∧ equal a b = false ∧ cn a = cn b) ∨
    (isN a = true ∧ isN b = false ∧ ord a b = 1 ∧ ord b a = -1 ∧ less a b = false ∧ less b a = false ∧ equal a b = false ∧ ((cn a : Int) == (cn b : Int)) = false) ∨
    (isN a = false ∧ isN b = true ∧ ord a b = -1 ∧ ord b a = 1 ∧ less a b = false ∧ less b a = false ∧ equal a b = false ∧ ((cn a : Int) == (cn b : Int)) = false) ∨
    (isN a = false ∧ isN b = false ∧ ord a b = 0 ∧ ord b a = 0 ∧ less a b = false ∧ less b a = false ∧ equal a b = true ∧ cn a = cn b) ∨
    (isN a = false ∧ isN b = false ∧ ord a b = -1 ∧ ord b a = 1 ∧ less a b = false ∧ less b a = false ∧ equal a b = true ∧ ((cn a : Int) == (cn b : Int)) = false ∧ low a = 0 ∧ low b = 0) ∨
    (isN a = false ∧ isN b = false ∧ ord a b = 1 ∧ ord b a = -1 ∧ less a b = false ∧ less b a = false ∧ equal a b = true ∧ ((cn a : Int) == (cn b : Int)) = false ∧ low a = 0 ∧ low b = 0) ∨
    (isN a = false ∧ isN b = false ∧ ord a b = -1 ∧ ord b a = 1 ∧ less a b = true ∧ less b a = false ∧ equal a b = false ∧ ((cn a : Int) == (cn b : Int)) = false) ∨
    (isN a = false ∧ isN b = false ∧ ord a b = 1 ∧ ord b a = -1 ∧ less a b = false ∧ less b a = true ∧ equal a b = false ∧ ((cn a : Int) == (cn b : Int)) = false) := by
  have ra : rk a = if cn a < 9223372036854775808 then (cn a : Int) else -((cn a : Int) - 9223372036854775808) - 1 := rfl
  have rb : rk b = if cn b < 9223372036854775808 then (cn b : Int) else -((cn b : Int) - 9223372036854775808) - 1 := rfl
  have ka := key_cases a ha
  have kb := key_cases b hb
  have la : isN a = false → low a ≤ 9218868437227405312 := by
    intro h; unfold isN at h; rw [decide_eq_false_iff_not] at h; omega
  have lb : isN b = false → low b ≤ 9218868437227405312 := by
    intro h; unfold isN at h; rw [decide_eq_false_iff_not] at h; omega
  cases hna : isN a <;> cases hnb : isN b
  · have ca := cn_not hna
    have cb := cn_not hnb
    have la := la hna
    have lb := lb hnb
    unfold low at la lb
    unfold ord less equal
    rw [hna, hnb, ka, kb, ra, rb, ca, cb]
    unfold low
    clear ka kb ra rb ca cb hna hnb
    by_cases h1 : a < 9223372036854775808 <;> by_cases h2 : b < 9223372036854775808 <;> simp only [h1, h2, if_true, if_false]
    · rcases Nat.lt_trichotomy a b with h | h | h
      · simp; omega
      · subst h; simp
      · simp; omega
    · by_cases h3 : a = 0 ∧ b = 9223372036854775808
      · obtain ⟨rfl, rfl⟩ := h3; simp
      · simp; omega
    · by_cases h3 : b = 0 ∧ a = 9223372036854775808
      · obtain ⟨rfl, rfl⟩ := h3; simp
      · simp; omega
    · rcases Nat.lt_trichotomy a b with h | h | h
      · simp; omega
      · subst h; simp
      · simp; omega
  · have ca := cn_not hna
    have cb := cn_yes hnb
    have la := la hna
    unfold low at la
    unfold ord less equal
    rw [hna, hnb, ra, rb, ca, cb]
    have n1 : 9218868437227405312 < nan := by decide
    have n2 : nan < 9223372036854775808 := by decide
    clear ra rb ca cb ka kb hna hnb
    generalize nan = N at n1 n2 ⊢
    rw [if_pos n2]
    simp; split <;> omega
  · have ca := cn_yes hna
    have cb := cn_not hnb
    have lb := lb hnb
    unfold low at lb
    unfold ord less equal
    rw [hna, hnb, ra, rb, ca, cb]
    have n1 : 9218868437227405312 < nan := by decide
    have n2 : nan < 9223372036854775808 := by decide
    clear ra rb ca cb ka kb hna hnb
    generalize nan = N at n1 n2 ⊢
    rw [if_pos n2]
    simp; split <;> omega
  · have ca := cn_yes hna
    have cb := cn_yes hnb
    unfold ord less equal
    rw [hna, hnb, ra, rb, ca, cb]
    simp

theorem third (a b c : Nat) (h : ord a b = -1) : (ord b c = -1 ∧ ord a c = -1) ∨ ord b c = 0 ∨ ord b c = 1 := by
  have h1 : rk a < rk b := by
    unfold ord at h; split at h
    · assumption
    · split at h <;> omega
  unfold ord
  by_cases h2 : rk b < rk c
  · rw [if_pos h2, if_pos (by omega)]; simp
  · rw [if_neg h2]
    by_cases h3 : rk c < rk b
    · rw [if_pos h3]; simp
    · rw [if_neg h3]; simp
set_option maxHeartbeats 4000000 in
theorem walk (a0 : Int) (a1 : Int) (a2 : Int) (w0 : (Lit.int .u64 a0).wf = true) (w1 : (Lit.int .u64 a1).wf = true) (w2 : (Lit.int .u64 a2).wf = true) (w : World) :
    Calls Try.prog 4 #[.int .u64 a0, .int .u64 a1, .int .u64 a2] w fun e w' => e = .returned (.bool true) ∧ Grown w w' := by
  obtain ⟨b1, b2⟩ := bounds_u64 w0
  obtain ⟨b3, b4⟩ := bounds_u64 w1
  obtain ⟨b5, b6⟩ := bounds_u64 w2
  obtain ⟨x, rfl⟩ : ∃ x : Nat, a0 = x := ⟨a0.toNat, by omega⟩
  obtain ⟨y, rfl⟩ : ∃ y : Nat, a1 = y := ⟨a1.toNat, by omega⟩
  obtain ⟨z, rfl⟩ : ∃ z : Nat, a2 = z := ⟨a2.toNat, by omega⟩
  have hx : x < 18446744073709551616 := by omega
  have hy : y < 18446744073709551616 := by omega
  have hz : z < 18446744073709551616 := by omega
  clear w0 w1 w2 b1 b2 b3 b4 b5 b6
  rcases pair x y hx hy with ⟨p1, p2, p3, p4, p5, p6, p7, p8⟩ | ⟨p1, p2, p3, p4, p5, p6, p7, p8⟩ | ⟨p1, p2, p3, p4, p5, p6, p7, p8⟩ | ⟨p1, p2, p3, p4, p5, p6, p7, p8⟩ | ⟨p1, p2, p3, p4, p5, p6, p7, p8, p9, p10⟩ | ⟨p1, p2, p3, p4, p5, p6, p7, p8, p9, p10⟩ | ⟨p1, p2, p3, p4, p5, p6, p7, p8⟩ | ⟨p1, p2, p3, p4, p5, p6, p7, p8⟩
  · go_enter Try.func4, Try.ntmps4
    go_wp2_with (first | (go_at_call 16; refine (ordR_c _ _ (by assumption) (by assumption) _).mono ?_; rintro e w' ⟨rfl, hg⟩) | (go_at_call 10; refine (canR_c _ (by assumption) _).mono ?_; rintro e w' ⟨rfl, rfl⟩) | (go_at_call 12; refine (lessR_c _ _ _).mono ?_; rintro e w' ⟨rfl, rfl⟩) | (go_at_call 14; refine (equalR_c _ _ _).mono ?_; rintro e w' ⟨rfl, rfl⟩) | (go_at_call 19; refine (number_c _ (by assumption) _).mono ?_; rintro e w' ⟨rfl, rfl⟩) | (go_at_call 18; refine (awake_c _).mono ?_; rintro e w' ⟨rfl, hg⟩))
    go_ret
    refine ⟨rfl, ?_⟩
    repeat (first | assumption | exact Grown.refl _ | refine grown_trans ?_ (by assumption))
  · go_enter Try.func4, Try.ntmps4
    go_wp2_with (first | (go_at_call 16; refine (ordR_c _ _ (by assumption) (by assumption) _).mono ?_; rintro e w' ⟨rfl, hg⟩) | (go_at_call 10; refine (canR_c _ (by assumption) _).mono ?_; rintro e w' ⟨rfl, rfl⟩) | (go_at_call 12; refine (lessR_c _ _ _).mono ?_; rintro e w' ⟨rfl, rfl⟩) | (go_at_call 14; refine (equalR_c _ _ _).mono ?_; rintro e w' ⟨rfl, rfl⟩) | (go_at_call 19; refine (number_c _ (by assumption) _).mono ?_; rintro e w' ⟨rfl, rfl⟩) | (go_at_call 18; refine (awake_c _).mono ?_; rintro e w' ⟨rfl, hg⟩))
    go_ret
    refine ⟨rfl, ?_⟩
    repeat (first | assumption | exact Grown.refl _ | refine grown_trans ?_ (by assumption))
  · rcases third x y z p3 with ⟨t1, t2⟩ | t1 | t1
    all_goals
      go_enter Try.func4, Try.ntmps4
      go_wp2_with (first | (go_at_call 16; refine (ordR_c _ _ (by assumption) (by assumption) _).mono ?_; rintro e w' ⟨rfl, hg⟩) | (go_at_call 10; refine (canR_c _ (by assumption) _).mono ?_; rintro e w' ⟨rfl, rfl⟩) | (go_at_call 12; refine (lessR_c _ _ _).mono ?_; rintro e w' ⟨rfl, rfl⟩) | (go_at_call 14; refine (equalR_c _ _ _).mono ?_; rintro e w' ⟨rfl, rfl⟩) | (go_at_call 19; refine (number_c _ (by assumption) _).mono ?_; rintro e w' ⟨rfl, rfl⟩) | (go_at_call 18; refine (awake_c _).mono ?_; rintro e w' ⟨rfl, hg⟩))
      go_ret
      refine ⟨rfl, ?_⟩
      repeat (first | assumption | exact Grown.refl _ | refine grown_trans ?_ (by assumption))
  · go_enter Try.func4, Try.ntmps4
    go_wp2_with (first | (go_at_call 16; refine (ordR_c _ _ (by assumption) (by assumption) _).mono ?_; rintro e w' ⟨rfl, hg⟩) | (go_at_call 10; refine (canR_c _ (by assumption) _).mono ?_; rintro e w' ⟨rfl, rfl⟩) | (go_at_call 12; refine (lessR_c _ _ _).mono ?_; rintro e w' ⟨rfl, rfl⟩) | (go_at_call 14; refine (equalR_c _ _ _).mono ?_; rintro e w' ⟨rfl, rfl⟩) | (go_at_call 19; refine (number_c _ (by assumption) _).mono ?_; rintro e w' ⟨rfl, rfl⟩) | (go_at_call 18; refine (awake_c _).mono ?_; rintro e w' ⟨rfl, hg⟩))
    go_ret
    refine ⟨rfl, ?_⟩
    repeat (first | assumption | exact Grown.refl _ | refine grown_trans ?_ (by assumption))
  · have q1 : (bits BinOp.and IntKind.u64 (x : Int) 9223372036854775807 == 0) = true := by rw [and_low x hx, p9]; rfl
    have q2 : (bits BinOp.and IntKind.u64 (y : Int) 9223372036854775807 == 0) = true := by rw [and_low y hy, p10]; rfl
    clear p9 p10
    rcases third x y z p3 with ⟨t1, t2⟩ | t1 | t1
    all_goals
      go_enter Try.func4, Try.ntmps4
      go_wp2_with (first | (go_at_call 16; refine (ordR_c _ _ (by assumption) (by assumption) _).mono ?_; rintro e w' ⟨rfl, hg⟩) | (go_at_call 10; refine (canR_c _ (by assumption) _).mono ?_; rintro e w' ⟨rfl, rfl⟩) | (go_at_call 12; refine (lessR_c _ _ _).mono ?_; rintro e w' ⟨rfl, rfl⟩) | (go_at_call 14; refine (equalR_c _ _ _).mono ?_; rintro e w' ⟨rfl, rfl⟩) | (go_at_call 19; refine (number_c _ (by assumption) _).mono ?_; rintro e w' ⟨rfl, rfl⟩) | (go_at_call 18; refine (awake_c _).mono ?_; rintro e w' ⟨rfl, hg⟩))
      go_ret
      refine ⟨rfl, ?_⟩
      repeat (first | assumption | exact Grown.refl _ | refine grown_trans ?_ (by assumption))
  · have q1 : (bits BinOp.and IntKind.u64 (x : Int) 9223372036854775807 == 0) = true := by rw [and_low x hx, p9]; rfl
    have q2 : (bits BinOp.and IntKind.u64 (y : Int) 9223372036854775807 == 0) = true := by rw [and_low y hy, p10]; rfl
    clear p9 p10
    go_enter Try.func4, Try.ntmps4
    go_wp2_with (first | (go_at_call 16; refine (ordR_c _ _ (by assumption) (by assumption) _).mono ?_; rintro e w' ⟨rfl, hg⟩) | (go_at_call 10; refine (canR_c _ (by assumption) _).mono ?_; rintro e w' ⟨rfl, rfl⟩) | (go_at_call 12; refine (lessR_c _ _ _).mono ?_; rintro e w' ⟨rfl, rfl⟩) | (go_at_call 14; refine (equalR_c _ _ _).mono ?_; rintro e w' ⟨rfl, rfl⟩) | (go_at_call 19; refine (number_c _ (by assumption) _).mono ?_; rintro e w' ⟨rfl, rfl⟩) | (go_at_call 18; refine (awake_c _).mono ?_; rintro e w' ⟨rfl, hg⟩))
    go_ret
    refine ⟨rfl, ?_⟩
    repeat (first | assumption | exact Grown.refl _ | refine grown_trans ?_ (by assumption))
  · rcases third x y z p3 with ⟨t1, t2⟩ | t1 | t1
    all_goals
      go_enter Try.func4, Try.ntmps4
      go_wp2_with (first | (go_at_call 16; refine (ordR_c _ _ (by assumption) (by assumption) _).mono ?_; rintro e w' ⟨rfl, hg⟩) | (go_at_call 10; refine (canR_c _ (by assumption) _).mono ?_; rintro e w' ⟨rfl, rfl⟩) | (go_at_call 12; refine (lessR_c _ _ _).mono ?_; rintro e w' ⟨rfl, rfl⟩) | (go_at_call 14; refine (equalR_c _ _ _).mono ?_; rintro e w' ⟨rfl, rfl⟩) | (go_at_call 19; refine (number_c _ (by assumption) _).mono ?_; rintro e w' ⟨rfl, rfl⟩) | (go_at_call 18; refine (awake_c _).mono ?_; rintro e w' ⟨rfl, hg⟩))
      go_ret
      refine ⟨rfl, ?_⟩
      repeat (first | assumption | exact Grown.refl _ | refine grown_trans ?_ (by assumption))
  · go_enter Try.func4, Try.ntmps4
    go_wp2_with (first | (go_at_call 16; refine (ordR_c _ _ (by assumption) (by assumption) _).mono ?_; rintro e w' ⟨rfl, hg⟩) | (go_at_call 10; refine (canR_c _ (by assumption) _).mono ?_; rintro e w' ⟨rfl, rfl⟩) | (go_at_call 12; refine (lessR_c _ _ _).mono ?_; rintro e w' ⟨rfl, rfl⟩) | (go_at_call 14; refine (equalR_c _ _ _).mono ?_; rintro e w' ⟨rfl, rfl⟩) | (go_at_call 19; refine (number_c _ (by assumption) _).mono ?_; rintro e w' ⟨rfl, rfl⟩) | (go_at_call 18; refine (awake_c _).mono ?_; rintro e w' ⟨rfl, hg⟩))
    go_ret
    refine ⟨rfl, ?_⟩
    repeat (first | assumption | exact Grown.refl _ | refine grown_trans ?_ (by assumption))

set_option maxRecDepth 100000 in
theorem lifted (os : Os) (started : os.Started) (H : Type) (enc : TypeId × Value → H) :
    ReturnsInHanded {} Try.checked os 4 .any (Rows.realsOrderSpec.pre6 enc Try.prog Try.f4 Rows.realsOrderRow.domain false) (Rows.realsOrderSpec.post enc Try.prog Try.f4 false true false false) := by
  refine returnsInHanded_of_change (C := Try.checked) own started (by kernel_rfl) Try.func4
    (ChangeSpec.witness6 (enc := enc) (C := Try.checked) false ⟨#[], #[.int .u64 0, .int .u64 0, .int .u64 0], []⟩ 8 (by kernel_rfl) (by kernel_rfl) (by kernel_rfl) (by kernel_rfl)) ?_
  intro W base args ds gs before hval0 hW hcnd _
  have hval : ∀ (j : Nat) t v, Try.f4.params[j]? = some t → args[j]? = some v → Value.okWide Try.prog W .any base t v := hval0
  have hW' := hW
  obtain ⟨p, q, hA0, hV, rfl, hfz, hnd⟩ := hW
  have hA : DataW.TrodAll enc Try.prog W 0 (fun _ => true) true Try.f4.params.toList args.toList ds p := hA0
  rw [Try.params4] at hA hval
  obtain ⟨v0, vs0, d0, ds0, p0, q0, hargs, rfl, rfl, h0, r0⟩ := trodAll_cons hA
  obtain ⟨v1, vs1, d1, ds1, p1, q1, rfl, rfl, rfl, h1, r1⟩ := trodAll_cons r0
  obtain ⟨v2, vs2, d2, ds2, p2, q2, rfl, rfl, rfl, h2, r2⟩ := trodAll_cons r1
  obtain ⟨rfl, rfl, rfl⟩ := trodAll_nil r2
  obtain rfl : args = #[v0, v1, v2] := by cases args; simp_all
  obtain ⟨rfl, rfl⟩ := trodVars_none hV
  obtain ⟨a0, rfl, rfl, rfl, w0⟩ := open_int Try.underlying22 (hval 0 22 v0 rfl rfl) h0
  obtain ⟨a1, rfl, rfl, rfl, w1⟩ := open_int Try.underlying22 (hval 1 22 v1 rfl rfl) h1
  obtain ⟨a2, rfl, rfl, rfl, w2⟩ := open_int Try.underlying22 (hval 2 22 v2 rfl rfl) h2
  clear hA0 hval0
  simp only [List.append_nil] at hW'
  refine (walk a0 a1 a2 w0 w1 w2 W).mono fun e W' ⟨he, hg⟩ => ?_
  subst he
  exact ⟨_, rfl, post_of_same (pa := []) (pv := []) hW' (fun _ _ _ => (trodAll_cons_mk (shut_bool Try.underlying4 _) trodAll_mk0)) (fun sp _ => (trodAll_cons_mk (shut_int Try.underlying22 w0) (trodAll_cons_mk (shut_int Try.underlying22 w1) (trodAll_cons_mk (shut_int Try.underlying22 w2) trodAll_mk0)))) (fun _ _ => rfl) rfl
    (hg.frame _) hg.2.1 (ok_one (by kernel_rfl) rfl (okWide_bool_mk Try.underlying4 _))⟩

theorem over : Rows.realsOrderRow.holds Try.pinned (OpenSpec.ofChange Rows.realsOrderSpec) :=
  OpenClaim.holds_of_wide 4 Try.f4 rfl rfl rfl rfl rfl rfl rfl ⟨rfl, rfl, rfl, rfl, rfl⟩ rfl rfl rfl rfl rfl (by kernel_rfl) Try.func4 (by kernel_rfl)
    (of_decide_eq_true (by kernel_rfl)) (by unfold Func.isWrapper; first | (rw [if_pos (by decide +kernel)]; kernel_rfl) | (rw [if_neg (by decide +kernel)]; exact ⟨rfl, rfl⟩))
    (fun os started H enc _ => lifted os started H enc)

theorem proved : Rows.RealsOrderSaid :=
  over
#print axioms proved
end Go.Proofs.Ytpoaokkgjgkfcaa.realsOrder
