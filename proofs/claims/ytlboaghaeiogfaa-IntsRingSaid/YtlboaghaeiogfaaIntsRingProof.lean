/- IntsRing returns true for every three numbers, and leaves its arguments as they were. No condition. -/
import Derived.Test.YtlboaghaeiogfaaRows
import Derived.Test.YtlboaghaeiogfaaIaw
import Derived.WalkKit
import Derived.ProofKit
import Derived.OpenShut
import Derived.ShutString
namespace Go.Proofs.Ytlboaghaeiogfaa.intsRing
open Go.ChangeShapes Go.WideShapes Go.ChangeAt Go.RowKit
open Go.ChangeMaps (open_string shut_string)
set_option linter.unusedVariables false
set_option linter.unusedSimpArgs false

theorem own : ownKnob Try.prog.godebug = none := by kernel_rfl

theorem wa1 (x y : Int) : wrap64 (wrap64 x + y) = wrap64 (x + y) := by
  apply w_mod; have := w_mod' x; generalize wrap64 x = z at *; omega
theorem wa2 (x y : Int) : wrap64 (x + wrap64 y) = wrap64 (x + y) := by
  apply w_mod; have := w_mod' y; generalize wrap64 y = z at *; omega
theorem ws1 (x y : Int) : wrap64 (wrap64 x - y) = wrap64 (x - y) := by
  apply w_mod; have := w_mod' x; generalize wrap64 x = z at *; omega
theorem wm1 (x y : Int) : wrap64 (wrap64 x * y) = wrap64 (x * y) := by
  apply w_mod; rw [Int.mul_emod, w_mod', ← Int.mul_emod]
theorem wm2 (x y : Int) : wrap64 (x * wrap64 y) = wrap64 (x * y) := by
  apply w_mod; rw [Int.mul_emod, w_mod', ← Int.mul_emod]
set_option maxHeartbeats 1000000 in
theorem walk (a0 : Int) (a1 : Int) (a2 : Int) (w0 : (Lit.int .i64 a0).wf = true) (w1 : (Lit.int .i64 a1).wf = true) (w2 : (Lit.int .i64 a2).wf = true) (w : World) :
    Calls Try.prog 6 #[.int .i64 a0, .int .i64 a1, .int .i64 a2] w fun e w' => e = .returned (.bool true) ∧ Kept w w' := by
  obtain ⟨b1, b2⟩ := bounds_i64 w0
  have H0 := Lib.hid (fun w => op_c ⟨#[43]⟩ a0 a1 (wrap64 (a0 + a1)) (one_le _) (show wrap64 (a0 + a1) = wrap64 (a0 + a1) from rfl) rfl w)
  have H1 := Lib.hid (fun w => op_c ⟨#[43]⟩ a1 a0 (wrap64 (a0 + a1)) (one_le _) (show wrap64 (a1 + a0) = wrap64 (a0 + a1) from by rw [Int.add_comm]) rfl w)
  have H2 := Lib.hid (fun w => op_c ⟨#[42]⟩ a0 a1 (wrap64 (a0 * a1)) (one_le _) (show wrap64 (a0 * a1) = wrap64 (a0 * a1) from rfl) rfl w)
  have H3 := Lib.hid (fun w => op_c ⟨#[42]⟩ a1 a0 (wrap64 (a0 * a1)) (one_le _) (show wrap64 (a1 * a0) = wrap64 (a0 * a1) from by rw [Int.mul_comm]) rfl w)
  have H4 := Lib.hid (fun w => op_c ⟨#[43]⟩ a0 a1 (wrap64 (a0 + a1)) (one_le _) (show wrap64 (a0 + a1) = wrap64 (a0 + a1) from rfl) rfl w)
  have H5 := Lib.hid (fun w => op_c ⟨#[43]⟩ (wrap64 (a0 + a1)) a2 (wrap64 (a0 + a1 + a2)) (one_le _) (show wrap64 ((wrap64 (a0 + a1)) + a2) = wrap64 (a0 + a1 + a2) from wa1 _ _) rfl w)
  have H6 := Lib.hid (fun w => op_c ⟨#[43]⟩ a1 a2 (wrap64 (a1 + a2)) (one_le _) (show wrap64 (a1 + a2) = wrap64 (a1 + a2) from rfl) rfl w)
  have H7 := Lib.hid (fun w => op_c ⟨#[43]⟩ a0 (wrap64 (a1 + a2)) (wrap64 (a0 + a1 + a2)) (one_le _) (show wrap64 (a0 + (wrap64 (a1 + a2))) = wrap64 (a0 + a1 + a2) from (wa2 _ _).trans (by rw [Int.add_assoc])) rfl w)
  have H8 := Lib.hid (fun w => op_c ⟨#[42]⟩ a0 a1 (wrap64 (a0 * a1)) (one_le _) (show wrap64 (a0 * a1) = wrap64 (a0 * a1) from rfl) rfl w)
  have H9 := Lib.hid (fun w => op_c ⟨#[42]⟩ (wrap64 (a0 * a1)) a2 (wrap64 (a0 * a1 * a2)) (one_le _) (show wrap64 ((wrap64 (a0 * a1)) * a2) = wrap64 (a0 * a1 * a2) from wm1 _ _) rfl w)
  have H10 := Lib.hid (fun w => op_c ⟨#[42]⟩ a1 a2 (wrap64 (a1 * a2)) (one_le _) (show wrap64 (a1 * a2) = wrap64 (a1 * a2) from rfl) rfl w)
  have H11 := Lib.hid (fun w => op_c ⟨#[42]⟩ a0 (wrap64 (a1 * a2)) (wrap64 (a0 * a1 * a2)) (one_le _) (show wrap64 (a0 * (wrap64 (a1 * a2))) = wrap64 (a0 * a1 * a2) from (wm2 _ _).trans (by rw [Int.mul_assoc])) rfl w)
  have H12 := Lib.hid (fun w => op_c ⟨#[43]⟩ a1 a2 (wrap64 (a1 + a2)) (one_le _) (show wrap64 (a1 + a2) = wrap64 (a1 + a2) from rfl) rfl w)
  have H13 := Lib.hid (fun w => op_c ⟨#[42]⟩ a0 (wrap64 (a1 + a2)) (wrap64 (a0 * (a1 + a2))) (one_le _) (show wrap64 (a0 * (wrap64 (a1 + a2))) = wrap64 (a0 * (a1 + a2)) from wm2 _ _) rfl w)
  have H14 := Lib.hid (fun w => op_c ⟨#[42]⟩ a0 a1 (wrap64 (a0 * a1)) (one_le _) (show wrap64 (a0 * a1) = wrap64 (a0 * a1) from rfl) rfl w)
  have H15 := Lib.hid (fun w => op_c ⟨#[42]⟩ a0 a2 (wrap64 (a0 * a2)) (one_le _) (show wrap64 (a0 * a2) = wrap64 (a0 * a2) from rfl) rfl w)
  have H16 := Lib.hid (fun w => op_c ⟨#[43]⟩ (wrap64 (a0 * a1)) (wrap64 (a0 * a2)) (wrap64 (a0 * (a1 + a2))) (one_le _) (show wrap64 ((wrap64 (a0 * a1)) + (wrap64 (a0 * a2))) = wrap64 (a0 * (a1 + a2)) from ((wa1 _ _).trans (wa2 _ _)).trans (by rw [Int.mul_add])) rfl w)
  have H17 := Lib.hid (fun w => op_c ⟨#[43]⟩ a0 a1 (wrap64 (a0 + a1)) (one_le _) (show wrap64 (a0 + a1) = wrap64 (a0 + a1) from rfl) rfl w)
  have H18 := Lib.hid (fun w => op_c ⟨#[45]⟩ (wrap64 (a0 + a1)) a1 a0 (one_le _) (show wrap64 ((wrap64 (a0 + a1)) - a1) = a0 from (ws1 _ _).trans (by rw [Int.add_sub_cancel]; exact w_in b1 b2)) rfl w)
  have H19 := Lib.hid (fun w => negR_c a0 w)
  have H20 := Lib.hid (fun w => op_c ⟨#[45]⟩ 0 a0 (wrap64 (-a0)) (one_le _) (show wrap64 (0 - a0) = wrap64 (-a0) from by rw [Int.zero_sub]) rfl w)
  have H21 := Lib.hid (fun w => negR_c a1 w)
  have H22 := Lib.hid (fun w => op_c ⟨#[43]⟩ a0 (wrap64 (-a1)) (wrap64 (a0 - a1)) (one_le _) (show wrap64 (a0 + (wrap64 (-a1))) = wrap64 (a0 - a1) from (wa2 _ _).trans (by rw [Int.sub_eq_add_neg])) rfl w)
  have H23 := Lib.hid (fun w => op_c ⟨#[45]⟩ a0 a1 (wrap64 (a0 - a1)) (one_le _) (show wrap64 (a0 - a1) = wrap64 (a0 - a1) from rfl) rfl w)
  have H24 := Lib.hid (fun w => op_c ⟨#[42]⟩ a0 1 a0 (one_le _) (show wrap64 (a0 * 1) = a0 from by rw [Int.mul_one]; exact w_in b1 b2) rfl w)
  have H25 := Lib.hid (fun w => op_c ⟨#[43]⟩ a0 0 a0 (one_le _) (show wrap64 (a0 + 0) = a0 from by rw [Int.add_zero]; exact w_in b1 b2) rfl w)
  have H26 := Lib.hid (fun w => op_c ⟨#[42]⟩ a0 0 0 (one_le _) (show wrap64 (a0 * 0) = 0 from by rw [Int.mul_zero]; exact w_in (by omega) (by omega)) rfl w)
  generalize wrap64 (a0 * (a1 + a2)) = vD at *
  generalize wrap64 (a0 * a1 * a2) = vM at *
  generalize wrap64 (a0 + a1 + a2) = vT at *
  generalize wrap64 (a0 + a1) = vS at *
  generalize wrap64 (a0 * a1) = vQ at *
  generalize wrap64 (a1 + a2) = vR at *
  generalize wrap64 (a1 * a2) = vN at *
  generalize wrap64 (a0 * a2) = vP at *
  generalize wrap64 (-a0) = vna at *
  generalize wrap64 (-a1) = vnb at *
  generalize wrap64 (a0 - a1) = vB at *
  clear w0 w1 w2 b1 b2
  go_enter Try.func6, Try.ntmps6
  go_wp2_with fail
  refine (known_c _).mono ?_
  rintro e wk ⟨rfl, gk⟩
  go_wp2_with fail
  refine (H0.out _).mono ?_
  rintro e x0 ⟨rfl, g0⟩
  clear H0
  go_wp2_with fail
  refine (H1.out _).mono ?_
  rintro e x1 ⟨rfl, g1⟩
  clear H1
  go_wp2_with fail
  refine (H2.out _).mono ?_
  rintro e x2 ⟨rfl, g2⟩
  clear H2
  go_wp2_with fail
  refine (H3.out _).mono ?_
  rintro e x3 ⟨rfl, g3⟩
  clear H3
  go_wp2_with fail
  refine (H4.out _).mono ?_
  rintro e x4 ⟨rfl, g4⟩
  clear H4
  go_wp2_with fail
  refine (H5.out _).mono ?_
  rintro e x5 ⟨rfl, g5⟩
  clear H5
  go_wp2_with fail
  refine (H6.out _).mono ?_
  rintro e x6 ⟨rfl, g6⟩
  clear H6
  go_wp2_with fail
  refine (H7.out _).mono ?_
  rintro e x7 ⟨rfl, g7⟩
  clear H7
  go_wp2_with fail
  refine (H8.out _).mono ?_
  rintro e x8 ⟨rfl, g8⟩
  clear H8
  go_wp2_with fail
  refine (H9.out _).mono ?_
  rintro e x9 ⟨rfl, g9⟩
  clear H9
  go_wp2_with fail
  refine (H10.out _).mono ?_
  rintro e x10 ⟨rfl, g10⟩
  clear H10
  go_wp2_with fail
  refine (H11.out _).mono ?_
  rintro e x11 ⟨rfl, g11⟩
  clear H11
  go_wp2_with fail
  refine (H12.out _).mono ?_
  rintro e x12 ⟨rfl, g12⟩
  clear H12
  go_wp2_with fail
  refine (H13.out _).mono ?_
  rintro e x13 ⟨rfl, g13⟩
  clear H13
  go_wp2_with fail
  refine (H14.out _).mono ?_
  rintro e x14 ⟨rfl, g14⟩
  clear H14
  go_wp2_with fail
  refine (H15.out _).mono ?_
  rintro e x15 ⟨rfl, g15⟩
  clear H15
  go_wp2_with fail
  refine (H16.out _).mono ?_
  rintro e x16 ⟨rfl, g16⟩
  clear H16
  go_wp2_with fail
  refine (H17.out _).mono ?_
  rintro e x17 ⟨rfl, g17⟩
  clear H17
  go_wp2_with fail
  refine (H18.out _).mono ?_
  rintro e x18 ⟨rfl, g18⟩
  clear H18
  go_wp2_with fail
  refine (H19.out _).mono ?_
  rintro e w' ⟨rfl, rfl⟩
  go_wp2_with fail
  refine (H20.out _).mono ?_
  rintro e x20 ⟨rfl, g20⟩
  clear H20
  go_wp2_with fail
  refine (H21.out _).mono ?_
  rintro e w' ⟨rfl, rfl⟩
  go_wp2_with fail
  refine (H22.out _).mono ?_
  rintro e x22 ⟨rfl, g22⟩
  clear H22
  go_wp2_with fail
  refine (H23.out _).mono ?_
  rintro e x23 ⟨rfl, g23⟩
  clear H23
  go_wp2_with fail
  refine (H24.out _).mono ?_
  rintro e x24 ⟨rfl, g24⟩
  clear H24
  go_wp2_with fail
  refine (H25.out _).mono ?_
  rintro e x25 ⟨rfl, g25⟩
  clear H25
  go_wp2_with fail
  refine (H26.out _).mono ?_
  rintro e x26 ⟨rfl, g26⟩
  clear H26
  go_wp2_with fail
  go_ret
  refine ⟨rfl, ?_⟩
  exact (((((((((((((((((((((((((gk.trans g0).trans g1).trans g2).trans g3).trans g4).trans g5).trans g6).trans g7).trans g8).trans g9).trans g10).trans g11).trans g12).trans g13).trans g14).trans g15).trans g16).trans g17).trans g18).trans g20).trans g22).trans g23).trans g24).trans g25).trans g26)

set_option maxRecDepth 100000 in
theorem lifted (os : Os) (started : os.Started) (H : Type) (enc : TypeId × Value → H) :
    ReturnsInHanded {} Try.checked os 6 .any (Rows.intsRingSpec.pre6 enc Try.prog Try.f6 Rows.intsRingRow.domain false) (Rows.intsRingSpec.post enc Try.prog Try.f6 false true false false) := by
  refine returnsInHanded_of_change (C := Try.checked) own started (by kernel_rfl) Try.func6
    (ChangeSpec.witness6 (enc := enc) (C := Try.checked) false ⟨#[], #[.int .i64 0, .int .i64 0, .int .i64 0], []⟩ 8 (by kernel_rfl) (by kernel_rfl) (by kernel_rfl) (by kernel_rfl)) ?_
  intro W base args ds gs before hval0 hW hcnd _
  have hval : ∀ (j : Nat) t v, Try.f6.params[j]? = some t → args[j]? = some v → Value.okWide Try.prog W .any base t v := hval0
  have hW' := hW
  obtain ⟨p, q, hA0, hV, rfl, hfz, hnd⟩ := hW
  have hA : DataW.TrodAll enc Try.prog W 0 (fun _ => true) true Try.f6.params.toList args.toList ds p := hA0
  rw [Try.params6] at hA hval
  obtain ⟨v0, vs0, d0, ds0, p0, q0, hargs, rfl, rfl, h0, r0⟩ := trodAll_cons hA
  obtain ⟨v1, vs1, d1, ds1, p1, q1, rfl, rfl, rfl, h1, r1⟩ := trodAll_cons r0
  obtain ⟨v2, vs2, d2, ds2, p2, q2, rfl, rfl, rfl, h2, r2⟩ := trodAll_cons r1
  obtain ⟨rfl, rfl, rfl⟩ := trodAll_nil r2
  obtain rfl : args = #[v0, v1, v2] := by cases args; simp_all
  obtain ⟨rfl, rfl⟩ := trodVars_none hV
  obtain ⟨a0, rfl, rfl, rfl, w0⟩ := open_int Try.underlying3 (hval 0 3 v0 rfl rfl) h0
  obtain ⟨a1, rfl, rfl, rfl, w1⟩ := open_int Try.underlying3 (hval 1 3 v1 rfl rfl) h1
  obtain ⟨a2, rfl, rfl, rfl, w2⟩ := open_int Try.underlying3 (hval 2 3 v2 rfl rfl) h2
  clear hA0 hval0
  simp only [List.append_nil] at hW'
  refine (walk a0 a1 a2 w0 w1 w2 W).mono fun e W' ⟨he, hg⟩ => ?_
  subst he
  exact ⟨_, rfl, post_of_kept (pa := []) (pv := []) hW' (fun _ _ _ => (trodAll_cons_mk (shut_bool Try.underlying4 _) trodAll_mk0)) (fun sp _ => (trodAll_cons_mk (shut_int Try.underlying3 w0) (trodAll_cons_mk (shut_int Try.underlying3 w1) (trodAll_cons_mk (shut_int Try.underlying3 w2) trodAll_mk0)))) (fun _ _ => rfl) rfl
    hg (ok_one (by kernel_rfl) rfl (okWide_bool_mk Try.underlying4 _))⟩

theorem over : Rows.intsRingRow.holds Try.pinned (OpenSpec.ofChange Rows.intsRingSpec) :=
  OpenClaim.holds_of_wide 6 Try.f6 rfl rfl rfl rfl rfl rfl rfl ⟨rfl, rfl, rfl, rfl, rfl⟩ rfl rfl rfl rfl rfl (by kernel_rfl) Try.func6 (by kernel_rfl)
    (of_decide_eq_true (by kernel_rfl)) (by unfold Func.isWrapper; first | (rw [if_pos (by decide +kernel)]; kernel_rfl) | (rw [if_neg (by decide +kernel)]; exact ⟨rfl, rfl⟩))
    (fun os started H enc _ => lifted os started H enc)

theorem proved : Rows.IntsRingSaid :=
  over
#print axioms proved
end Go.Proofs.Ytlboaghaeiogfaa.intsRing
