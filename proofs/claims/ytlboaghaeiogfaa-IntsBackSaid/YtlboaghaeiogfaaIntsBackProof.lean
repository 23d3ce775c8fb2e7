/- IntsBack returns true for every number and every text, and leaves its arguments as they were. No condition. -/
import Derived.Test.YtlboaghaeiogfaaRows
import Derived.Test.YtlboaghaeiogfaaIaw
import Derived.WalkKit
import Derived.ProofKit
import Derived.OpenShut
import Derived.ShutString
namespace Go.Proofs.Ytlboaghaeiogfaa.intsBack
open Go.ChangeShapes Go.WideShapes Go.ChangeAt Go.RowKit
open Go.ChangeMaps (open_string shut_string)
set_option linter.unusedVariables false
set_option linter.unusedSimpArgs false

theorem own : ownKnob Try.prog.godebug = none := by kernel_rfl

theorem txt_len (n : Int) (h1 : -9223372036854775808 ≤ n) (h2 : n ≤ 9223372036854775807) : (⟨(Dec.txt n).toArray⟩ : ByteArray).size ≤ 21 := by
  show (Dec.txt n).toArray.size ≤ 21
  have := Dec.digs_le20 (m := n.natAbs) (by omega)
  unfold Dec.txt
  split
  · simp; omega
  · simp; omega
theorem walk (a0 : Int) (a1 : ByteArray) (w0 : (Lit.int .i64 a0).wf = true) (w1 : a1.size ≤ maxLen) (w : World) :
    Calls Try.prog 8 #[.int .i64 a0, .string a1] w fun e w' => e = .returned (.bool true) ∧ Kept w w' := by
  obtain ⟨b1, b2⟩ := bounds_i64 w0
  have H1 := fun w => readR_c a1 w1 w
  have hr := Dec.rdN_range a1.data.toList
  have H2 := fun w => textR_c (Dec.rdN a1.data.toList) hr.1 hr.2 w
  have H3 := Lib.hid (fun w => textR_c a0 b1 b2 w)
  have ht := Dec.rd_txt a0 b1 b2
  have hsz := txt_len a0 b1 b2
  have H4 := Lib.hid (fun w => reads_t ⟨(Dec.txt a0).toArray⟩ a0 0 (by unfold maxLen; omega) ht.1 ht.2 w)
  generalize (⟨(Dec.txt a0).toArray⟩ : ByteArray) = z at *
  unfold maxLen at w1
  clear w0 b1 b2 hr ht hsz
  by_cases hl : 40 < a1.size
  · have hl' : 40 < (a1.size : Int) := by omega
    clear H1 H2
    go_enter Try.func8, Try.ntmps8
    go_wp2_with fail
    refine (known_c _).mono ?_
    rintro e wk ⟨rfl, gk⟩
    go_wp2_with fail
    go_ret
    exact ⟨rfl, gk⟩
  · have hl' : (a1.size : Int) ≤ 40 := by omega
    by_cases he : Dec.rdE a1.data.toList = 0
    · rw [Dec.txt_rd he, data_back] at H2
      rw [he] at H1
      have H1 := Lib.hid H1
      have H2 := Lib.hid H2
      clear he
      generalize Dec.rdN a1.data.toList = x at *
      go_enter Try.func8, Try.ntmps8
      go_wp2_with fail
      refine (known_c _).mono ?_
      rintro e wk ⟨rfl, gk⟩
      go_wp2_with fail
      refine (H1.out _).mono ?_
      rintro e w1 ⟨rfl, g1⟩
      go_wp2_with fail
      refine (H2.out _).mono ?_
      rintro e w2 ⟨rfl, g2⟩
      go_wp2_with fail
      refine (H3.out _).mono ?_
      rintro e w3 ⟨rfl, g3⟩
      go_wp2_with fail
      refine (H4.out _).mono ?_
      rintro e w4 ⟨rfl, g4⟩
      go_wp2_with fail
      go_ret
      exact ⟨rfl, (((gk.trans g1).trans g2).trans g3).trans g4⟩
    · obtain ⟨e1, e2⟩ := Dec.rd_err he
      rw [e1] at H1
      clear H2 e1 he
      rcases e2 with e2 | e2
      all_goals
        rw [e2] at H1
        have H1 := Lib.hid H1
        clear e2
        go_enter Try.func8, Try.ntmps8
        go_wp2_with fail
        refine (known_c _).mono ?_
        rintro e wk ⟨rfl, gk⟩
        go_wp2_with fail
        refine (H1.out _).mono ?_
        rintro e w1 ⟨rfl, g1⟩
        go_wp2_with fail
        refine (H3.out _).mono ?_
        rintro e w3 ⟨rfl, g3⟩
        go_wp2_with fail
        refine (H4.out _).mono ?_
        rintro e w4 ⟨rfl, g4⟩
        go_wp2_with fail
        go_ret
        exact ⟨rfl, ((gk.trans g1).trans g3).trans g4⟩

set_option maxRecDepth 100000 in
theorem lifted (os : Os) (started : os.Started) (H : Type) (enc : TypeId × Value → H) :
    ReturnsInHanded {} Try.checked os 8 .any (Rows.intsBackSpec.pre6 enc Try.prog Try.f8 Rows.intsBackRow.domain false) (Rows.intsBackSpec.post enc Try.prog Try.f8 false true false false) := by
  refine returnsInHanded_of_change (C := Try.checked) own started (by kernel_rfl) Try.func8
    (ChangeSpec.witness6 (enc := enc) (C := Try.checked) false ⟨#[], #[.int .i64 0, .string ByteArray.empty], []⟩ 8 (by kernel_rfl) (by kernel_rfl) (by kernel_rfl) (by kernel_rfl)) ?_
  intro W base args ds gs before hval0 hW hcnd _
  have hval : ∀ (j : Nat) t v, Try.f8.params[j]? = some t → args[j]? = some v → Value.okWide Try.prog W .any base t v := hval0
  have hW' := hW
  obtain ⟨p, q, hA0, hV, rfl, hfz, hnd⟩ := hW
  have hA : DataW.TrodAll enc Try.prog W 0 (fun _ => true) true Try.f8.params.toList args.toList ds p := hA0
  rw [Try.params8] at hA hval
  obtain ⟨v0, vs0, d0, ds0, p0, q0, hargs, rfl, rfl, h0, r0⟩ := trodAll_cons hA
  obtain ⟨v1, vs1, d1, ds1, p1, q1, rfl, rfl, rfl, h1, r1⟩ := trodAll_cons r0
  obtain ⟨rfl, rfl, rfl⟩ := trodAll_nil r1
  obtain rfl : args = #[v0, v1] := by cases args; simp_all
  obtain ⟨rfl, rfl⟩ := trodVars_none hV
  obtain ⟨a0, rfl, rfl, rfl, w0⟩ := open_int Try.underlying3 (hval 0 3 v0 rfl rfl) h0
  obtain ⟨a1, rfl, rfl, rfl, w1⟩ := open_string Try.underlying9 (hval 1 9 v1 rfl rfl) h1
  clear hA0 hval0
  simp only [List.append_nil] at hW'
  refine (walk a0 a1 w0 w1 W).mono fun e W' ⟨he, hg⟩ => ?_
  subst he
  exact ⟨_, rfl, post_of_kept (pa := []) (pv := []) hW' (fun _ _ _ => (trodAll_cons_mk (shut_bool Try.underlying4 _) trodAll_mk0)) (fun sp _ => (trodAll_cons_mk (shut_int Try.underlying3 w0) (trodAll_cons_mk (shut_string Try.underlying9 w1) trodAll_mk0))) (fun _ _ => rfl) rfl
    hg (ok_one (by kernel_rfl) rfl (okWide_bool_mk Try.underlying4 _))⟩

theorem over : Rows.intsBackRow.holds Try.pinned (OpenSpec.ofChange Rows.intsBackSpec) :=
  OpenClaim.holds_of_wide 8 Try.f8 rfl rfl rfl rfl rfl rfl rfl ⟨rfl, rfl, rfl, rfl, rfl⟩ rfl rfl rfl rfl rfl (by kernel_rfl) Try.func8 (by kernel_rfl)
    (of_decide_eq_true (by kernel_rfl)) (by unfold Func.isWrapper; first | (rw [if_pos (by decide +kernel)]; kernel_rfl) | (rw [if_neg (by decide +kernel)]; exact ⟨rfl, rfl⟩))
    (fun os started H enc _ => lifted os started H enc)

theorem proved : Rows.IntsBackSaid :=
  over
#print axioms proved
end Go.Proofs.Ytlboaghaeiogfaa.intsBack
