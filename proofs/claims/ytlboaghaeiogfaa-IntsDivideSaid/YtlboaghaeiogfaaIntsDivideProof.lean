/- IntsDivide returns true for every two numbers, and leaves its arguments as they were. No condition. -/
import Derived.Test.YtlboaghaeiogfaaRows
import Derived.Test.YtlboaghaeiogfaaIaw
import Derived.WalkKit
import Derived.ProofKit
import Derived.OpenShut
import Derived.ShutString
namespace Go.Proofs.Ytlboaghaeiogfaa.intsDivide
open Go.ChangeShapes Go.WideShapes Go.ChangeAt Go.RowKit
open Go.ChangeMaps (open_string shut_string)
set_option linter.unusedVariables false
set_option linter.unusedSimpArgs false

theorem own : ownKnob Try.prog.godebug = none := by kernel_rfl

theorem back_again (a b : Int) (h1 : -9223372036854775808 ≤ a) (h2 : a ≤ 9223372036854775807) : wrap64 (wrap64 (wrap64 (a.tdiv b) * b) + a.tmod b) = a := by
  have e : wrap64 (wrap64 (a.tdiv b) * b) = wrap64 (a.tdiv b * b) := by
    apply w_mod; rw [Int.mul_emod, w_mod', ← Int.mul_emod]
  rw [e]
  have e2 : wrap64 (wrap64 (a.tdiv b * b) + a.tmod b) = wrap64 (a.tdiv b * b + a.tmod b) := by
    apply w_mod; have := w_mod' (a.tdiv b * b); generalize wrap64 (a.tdiv b * b) = z at *; omega
  rw [e2, Int.mul_comm, Int.mul_tdiv_add_tmod]
  exact w_in h1 h2

theorem rest_near (a b : Int) (hb : b ≠ 0) : (a.tmod b).natAbs < b.natAbs := by
  rw [tmod_abs]
  have := Nat.mod_lt a.natAbs (show 0 < b.natAbs by omega)
  split <;> omega

theorem rest_sign (a b : Int) (h : a.tmod b ≠ 0) : (a.tmod b < 0 ∧ a < 0) ∨ (0 < a.tmod b ∧ 0 ≤ a) := by
  rw [tmod_abs] at *
  by_cases ha : a < 0
  · rw [if_pos ha] at *; left; omega
  · rw [if_neg ha] at *; right; omega

theorem tests (x : Int) (h : x < 0) : decide (x < 0) = true := decide_eq_true h
theorem tests' (x : Int) (h : 0 ≤ x) : decide (x < 0) = false := decide_eq_false (by omega)
set_option maxHeartbeats 2000000 in
theorem walk (a0 : Int) (a1 : Int) (w0 : (Lit.int .i64 a0).wf = true) (w1 : (Lit.int .i64 a1).wf = true) (w : World) :
    Calls Try.prog 7 #[.int .i64 a0, .int .i64 a1] w fun e w' => e = .returned (.bool true) ∧ Kept w w' := by
  obtain ⟨b1, b2⟩ := bounds_i64 w0
  obtain ⟨b3, b4⟩ := bounds_i64 w1
  clear w0 w1
  by_cases hb : a1 = 0
  · subst hb
    have H1 := Lib.hid (fun w => doR_quo0 a0 w)
    have H2 := Lib.hid (fun w => doR_rem0 a0 w)
    clear b1 b2 b3 b4
    go_enter Try.func7, Try.ntmps7
    go_wp2_with fail
    refine (known_c _).mono ?_
    rintro e wk ⟨rfl, gk⟩
    go_wp2_with fail
    refine (H1.out _).mono ?_
    rintro e w1 ⟨rfl, g1⟩
    go_wp2_with fail
    refine (H2.out _).mono ?_
    rintro e w2 ⟨rfl, g2⟩
    go_wp2_with fail
    go_ret
    exact ⟨rfl, (gk.trans g1).trans g2⟩
  · have hz : (a1 == 0) = false := by simpa using hb
    have hn := rest_near a0 a1 hb
    have hs := rest_sign a0 a1
    have H1 := Lib.hid (fun w => doR_quo a0 a1 hb w)
    have H2 := Lib.hid (fun w => doR_rem a0 a1 hb w)
    have H3 := Lib.hid (fun w => op_c ⟨#[42]⟩ (wrap64 (a0.tdiv a1)) a1 (wrap64 (wrap64 (a0.tdiv a1) * a1)) (one_le _) rfl rfl w)
    have H4 := Lib.hid (fun w => op_c ⟨#[43]⟩ (wrap64 (wrap64 (a0.tdiv a1) * a1)) (a0.tmod a1) a0 (one_le _) (back_again a0 a1 b1 b2) rfl w)
    generalize wrap64 (wrap64 (a0.tdiv a1) * a1) = x at *
    generalize wrap64 (a0.tdiv a1) = q at *
    generalize a0.tmod a1 = r at *
    have hcase : r = 0 ∨ (r < 0 ∧ a0 < 0) ∨ (0 < r ∧ 0 ≤ a0) := by
      by_cases h : r = 0
      · exact Or.inl h
      · exact Or.inr (hs h)
    clear hs
    have hbc : 0 < a1 ∨ (a1 < 0 ∧ a1 ≠ -9223372036854775808) ∨ a1 = -9223372036854775808 := by omega
    clear hb
    rcases hbc with hb | ⟨hb, hbl⟩ | rfl
    · have c1 : r < a1 := by omega
      have c2 : -a1 < r := by omega
      have hbl : (a1 == -9223372036854775808) = false := by rw [beq_eq_false_iff_ne]; omega
      clear hn
      rcases hcase with rfl | ⟨h1, h2⟩ | ⟨h1, h2⟩
      · skip
        go_enter Try.func7, Try.ntmps7
        go_wp2_with fail
        refine (known_c _).mono ?_
        rintro e wk ⟨rfl, gk⟩
        go_wp2_with fail
        refine (H1.out _).mono ?_
        rintro e w1 ⟨rfl, g1⟩
        go_wp2_with fail
        refine (H2.out _).mono ?_
        rintro e w2 ⟨rfl, g2⟩
        go_wp2_with fail
        refine (H3.out _).mono ?_
        rintro e w3 ⟨rfl, g3⟩
        go_wp2_with fail
        refine (H4.out _).mono ?_
        rintro e w4 ⟨rfl, g4⟩
        go_wp2_with fail
        go_ret
        exact ⟨rfl, (((gk.trans g1).trans g2).trans g3).trans g4⟩
      · have t1 := tests r h1
        have t2 := tests a0 h2
        have t3 : (r == 0) = false := by rw [beq_eq_false_iff_ne]; omega
        go_enter Try.func7, Try.ntmps7
        go_wp2_with fail
        refine (known_c _).mono ?_
        rintro e wk ⟨rfl, gk⟩
        go_wp2_with fail
        refine (H1.out _).mono ?_
        rintro e w1 ⟨rfl, g1⟩
        go_wp2_with fail
        refine (H2.out _).mono ?_
        rintro e w2 ⟨rfl, g2⟩
        go_wp2_with fail
        refine (H3.out _).mono ?_
        rintro e w3 ⟨rfl, g3⟩
        go_wp2_with fail
        refine (H4.out _).mono ?_
        rintro e w4 ⟨rfl, g4⟩
        go_wp2_with fail
        go_ret
        exact ⟨rfl, (((gk.trans g1).trans g2).trans g3).trans g4⟩
      · have t1 := tests' r (by omega)
        have t2 := tests' a0 h2
        have t3 : (r == 0) = false := by rw [beq_eq_false_iff_ne]; omega
        go_enter Try.func7, Try.ntmps7
        go_wp2_with fail
        refine (known_c _).mono ?_
        rintro e wk ⟨rfl, gk⟩
        go_wp2_with fail
        refine (H1.out _).mono ?_
        rintro e w1 ⟨rfl, g1⟩
        go_wp2_with fail
        refine (H2.out _).mono ?_
        rintro e w2 ⟨rfl, g2⟩
        go_wp2_with fail
        refine (H3.out _).mono ?_
        rintro e w3 ⟨rfl, g3⟩
        go_wp2_with fail
        refine (H4.out _).mono ?_
        rintro e w4 ⟨rfl, g4⟩
        go_wp2_with fail
        go_ret
        exact ⟨rfl, (((gk.trans g1).trans g2).trans g3).trans g4⟩
    · have c1 : a1 < r := by omega
      have c2 : r < -a1 := by omega
      have c3 : -9223372036854775807 ≤ a1 := by omega
      have hbl : (a1 == -9223372036854775808) = false := by rw [beq_eq_false_iff_ne]; omega
      clear hn
      rcases hcase with rfl | ⟨h1, h2⟩ | ⟨h1, h2⟩
      · skip
        go_enter Try.func7, Try.ntmps7
        go_wp2_with fail
        refine (known_c _).mono ?_
        rintro e wk ⟨rfl, gk⟩
        go_wp2_with fail
        refine (H1.out _).mono ?_
        rintro e w1 ⟨rfl, g1⟩
        go_wp2_with fail
        refine (H2.out _).mono ?_
        rintro e w2 ⟨rfl, g2⟩
        go_wp2_with fail
        refine (H3.out _).mono ?_
        rintro e w3 ⟨rfl, g3⟩
        go_wp2_with fail
        refine (H4.out _).mono ?_
        rintro e w4 ⟨rfl, g4⟩
        go_wp2_with fail
        go_ret
        exact ⟨rfl, (((gk.trans g1).trans g2).trans g3).trans g4⟩
      · have t1 := tests r h1
        have t2 := tests a0 h2
        have t3 : (r == 0) = false := by rw [beq_eq_false_iff_ne]; omega
        go_enter Try.func7, Try.ntmps7
        go_wp2_with fail
        refine (known_c _).mono ?_
        rintro e wk ⟨rfl, gk⟩
        go_wp2_with fail
        refine (H1.out _).mono ?_
        rintro e w1 ⟨rfl, g1⟩
        go_wp2_with fail
        refine (H2.out _).mono ?_
        rintro e w2 ⟨rfl, g2⟩
        go_wp2_with fail
        refine (H3.out _).mono ?_
        rintro e w3 ⟨rfl, g3⟩
        go_wp2_with fail
        refine (H4.out _).mono ?_
        rintro e w4 ⟨rfl, g4⟩
        go_wp2_with fail
        go_ret
        exact ⟨rfl, (((gk.trans g1).trans g2).trans g3).trans g4⟩
      · have t1 := tests' r (by omega)
        have t2 := tests' a0 h2
        have t3 : (r == 0) = false := by rw [beq_eq_false_iff_ne]; omega
        go_enter Try.func7, Try.ntmps7
        go_wp2_with fail
        refine (known_c _).mono ?_
        rintro e wk ⟨rfl, gk⟩
        go_wp2_with fail
        refine (H1.out _).mono ?_
        rintro e w1 ⟨rfl, g1⟩
        go_wp2_with fail
        refine (H2.out _).mono ?_
        rintro e w2 ⟨rfl, g2⟩
        go_wp2_with fail
        refine (H3.out _).mono ?_
        rintro e w3 ⟨rfl, g3⟩
        go_wp2_with fail
        refine (H4.out _).mono ?_
        rintro e w4 ⟨rfl, g4⟩
        go_wp2_with fail
        go_ret
        exact ⟨rfl, (((gk.trans g1).trans g2).trans g3).trans g4⟩
    · have c1 : -9223372036854775808 < r := by omega
      have c2 : r ≤ 9223372036854775807 := by omega
      have hrl : (r != -9223372036854775808) = true := by rw [bne_iff_ne]; omega
      clear hn hz
      have hw : wrap64 9223372036854775808 = -9223372036854775808 := by kernel_rfl
      rcases hcase with rfl | ⟨h1, h2⟩ | ⟨h1, h2⟩
      · skip
        go_enter Try.func7, Try.ntmps7
        go_wp2_with fail
        refine (known_c _).mono ?_
        rintro e wk ⟨rfl, gk⟩
        go_wp2_with fail
        refine (H1.out _).mono ?_
        rintro e w1 ⟨rfl, g1⟩
        go_wp2_with fail
        refine (H2.out _).mono ?_
        rintro e w2 ⟨rfl, g2⟩
        go_wp2_with fail
        refine (H3.out _).mono ?_
        rintro e w3 ⟨rfl, g3⟩
        go_wp2_with fail
        refine (H4.out _).mono ?_
        rintro e w4 ⟨rfl, g4⟩
        go_wp2_with fail
        go_ret
        exact ⟨rfl, (((gk.trans g1).trans g2).trans g3).trans g4⟩
      · have t1 := tests r h1
        have t2 := tests a0 h2
        have t3 : (r == 0) = false := by rw [beq_eq_false_iff_ne]; omega
        go_enter Try.func7, Try.ntmps7
        go_wp2_with fail
        refine (known_c _).mono ?_
        rintro e wk ⟨rfl, gk⟩
        go_wp2_with fail
        refine (H1.out _).mono ?_
        rintro e w1 ⟨rfl, g1⟩
        go_wp2_with fail
        refine (H2.out _).mono ?_
        rintro e w2 ⟨rfl, g2⟩
        go_wp2_with fail
        refine (H3.out _).mono ?_
        rintro e w3 ⟨rfl, g3⟩
        go_wp2_with fail
        refine (H4.out _).mono ?_
        rintro e w4 ⟨rfl, g4⟩
        go_wp2_with fail
        go_ret
        exact ⟨rfl, (((gk.trans g1).trans g2).trans g3).trans g4⟩
      · have t1 := tests' r (by omega)
        have t2 := tests' a0 h2
        have t3 : (r == 0) = false := by rw [beq_eq_false_iff_ne]; omega
        go_enter Try.func7, Try.ntmps7
        go_wp2_with fail
        refine (known_c _).mono ?_
        rintro e wk ⟨rfl, gk⟩
        go_wp2_with fail
        refine (H1.out _).mono ?_
        rintro e w1 ⟨rfl, g1⟩
        go_wp2_with fail
        refine (H2.out _).mono ?_
        rintro e w2 ⟨rfl, g2⟩
        go_wp2_with fail
        refine (H3.out _).mono ?_
        rintro e w3 ⟨rfl, g3⟩
        go_wp2_with fail
        refine (H4.out _).mono ?_
        rintro e w4 ⟨rfl, g4⟩
        go_wp2_with fail
        go_ret
        exact ⟨rfl, (((gk.trans g1).trans g2).trans g3).trans g4⟩

set_option maxRecDepth 100000 in
theorem lifted (os : Os) (started : os.Started) (H : Type) (enc : TypeId × Value → H) :
    ReturnsInHanded {} Try.checked os 7 .any (Rows.intsDivideSpec.pre6 enc Try.prog Try.f7 Rows.intsDivideRow.domain false) (Rows.intsDivideSpec.post enc Try.prog Try.f7 false true false false) := by
  refine returnsInHanded_of_change (C := Try.checked) own started (by kernel_rfl) Try.func7
    (ChangeSpec.witness6 (enc := enc) (C := Try.checked) false ⟨#[], #[.int .i64 0, .int .i64 0], []⟩ 8 (by kernel_rfl) (by kernel_rfl) (by kernel_rfl) (by kernel_rfl)) ?_
  intro W base args ds gs before hval0 hW hcnd _
  have hval : ∀ (j : Nat) t v, Try.f7.params[j]? = some t → args[j]? = some v → Value.okWide Try.prog W .any base t v := hval0
  have hW' := hW
  obtain ⟨p, q, hA0, hV, rfl, hfz, hnd⟩ := hW
  have hA : DataW.TrodAll enc Try.prog W 0 (fun _ => true) true Try.f7.params.toList args.toList ds p := hA0
  rw [Try.params7] at hA hval
  obtain ⟨v0, vs0, d0, ds0, p0, q0, hargs, rfl, rfl, h0, r0⟩ := trodAll_cons hA
  obtain ⟨v1, vs1, d1, ds1, p1, q1, rfl, rfl, rfl, h1, r1⟩ := trodAll_cons r0
  obtain ⟨rfl, rfl, rfl⟩ := trodAll_nil r1
  obtain rfl : args = #[v0, v1] := by cases args; simp_all
  obtain ⟨rfl, rfl⟩ := trodVars_none hV
  obtain ⟨a0, rfl, rfl, rfl, w0⟩ := open_int Try.underlying3 (hval 0 3 v0 rfl rfl) h0
  obtain ⟨a1, rfl, rfl, rfl, w1⟩ := open_int Try.underlying3 (hval 1 3 v1 rfl rfl) h1
  clear hA0 hval0
  simp only [List.append_nil] at hW'
  refine (walk a0 a1 w0 w1 W).mono fun e W' ⟨he, hg⟩ => ?_
  subst he
  exact ⟨_, rfl, post_of_kept (pa := []) (pv := []) hW' (fun _ _ _ => (trodAll_cons_mk (shut_bool Try.underlying4 _) trodAll_mk0)) (fun sp _ => (trodAll_cons_mk (shut_int Try.underlying3 w0) (trodAll_cons_mk (shut_int Try.underlying3 w1) trodAll_mk0))) (fun _ _ => rfl) rfl
    hg (ok_one (by kernel_rfl) rfl (okWide_bool_mk Try.underlying4 _))⟩

theorem over : Rows.intsDivideRow.holds Try.pinned (OpenSpec.ofChange Rows.intsDivideSpec) :=
  OpenClaim.holds_of_wide 7 Try.f7 rfl rfl rfl rfl rfl rfl rfl ⟨rfl, rfl, rfl, rfl, rfl⟩ rfl rfl rfl rfl rfl (by kernel_rfl) Try.func7 (by kernel_rfl)
    (of_decide_eq_true (by kernel_rfl)) (by unfold Func.isWrapper; first | (rw [if_pos (by decide +kernel)]; kernel_rfl) | (rw [if_neg (by decide +kernel)]; exact ⟨rfl, rfl⟩))
    (fun os started H enc _ => lifted os started H enc)

theorem proved : Rows.IntsDivideSaid :=
  over
#print axioms proved
end Go.Proofs.Ytlboaghaeiogfaa.intsDivide
