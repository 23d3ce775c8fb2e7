/- WordsTags returns true for every text and every tag, and leaves its arguments as they were. The tables of words, strings, unicode and unicode/utf8 are as the program's text lays them; no other condition. -/
import Derived.Test.YtijflampkdpgfaaDoorCards
import Derived.Test.YtijflampkdpgfaaDoorTie
import Derived.Test.YtijflampkdpgfaaDoorLok
import Derived.Test.YtijflampkdpgfaaDoorTbl
import Derived.WalkKit
import Derived.ProofKit
import Derived.OpenShut
import Derived.ShutString
import Derived.Deep.DeepHandedRow
import Derived.Lib.LaidU8
import Derived.Lay
set_option linter.unusedVariables false
set_option linter.unusedSimpArgs false
namespace Go.Proofs.YtijflampkdpgfaaDoor.wordsTags
open Go.ChangeShapes Go.WideShapes Go.ChangeAt Go.RowKit
open Go.ChangeMaps (open_string shut_string)

/-- Of a base type: its tag's type is it, it is reserved, its kind is the first. -/
theorem base_yes {s : ByteArray} (h : Wrd.base s = true) : Wrd.ofT (Wrd.tag s) = s ∧ Wrd.ofE (Wrd.tag s) = 0 ∧ Wrd.key s = true ∧ Wrd.kind s = 1 ∧ Wrd.tagE s = 0 := by
  have hk : Wrd.kind s = 1 := by unfold Wrd.kind; rw [if_pos h]
  have he : Wrd.tagE s = 0 := by unfold Wrd.tagE; rw [if_pos h]
  refine ⟨?_, ?_, ?_, hk, he⟩
  all_goals
    have hm := Wrd.has_iff.1 h
    simp only [Wrd.bs, List.mem_cons, List.not_mem_nil, or_false] at hm
    rcases hm with rfl | rfl | rfl | rfl | rfl <;> decide +kernel
theorem base_no {s : ByteArray} (h : Wrd.base s = false) : Wrd.tag s = 0 ∧ Wrd.tagE s = 7 ∧ (Wrd.kind s == 1) = false := by
  refine ⟨tagF_none fun hm => ?_, ?_, ?_⟩
  · rw [show Wrd.base s = true from Wrd.has_iff.2 hm] at h; cases h
  · unfold Wrd.tagE; rw [h]; rfl
  · unfold Wrd.kind; rw [h]
    simp only [Bool.false_eq_true, if_false]
    split
    · rfl
    · split <;> rfl
theorem of_in {n : Int} (h1 : 1 ≤ n) (h2 : n ≤ 5) : Wrd.ofE n = 0 ∧ (Wrd.tag (Wrd.ofT n) : Int) = n ∧ Wrd.tagE (Wrd.ofT n) = 0 := by
  have hn : n = 1 ∨ n = 2 ∨ n = 3 ∨ n = 4 ∨ n = 5 := by omega
  rcases hn with rfl | rfl | rfl | rfl | rfl <;> decide +kernel
set_option maxHeartbeats 8000000 in
theorem walk (a0 : ByteArray) (a1 : Int) (w0 : a0.size ≤ maxLen) (w1 : (Lit.int .i64 a1).wf = true) (w : World) (hT0 : Tb w) :
    Calls Tryd.prog 6 #[.string a0, .int .i64 a1] w fun e w' => e = .returned (.bool true) ∧ Kept w w' := by
  have hT := hT0
  clear hT0
  by_cases hl : 60 < a0.size
  · have hl' : 60 < (a0.size : Int) := by omega
    unfold maxLen at w0
    go_enter Tryd.func6, Tryd.ntmps6
    go_wp2_with fail
    refine (known_c _ hT).mono ?_
    rintro e w1 ⟨rfl, hk⟩
    go_wp2_with fail
    go_ret
    exact ⟨rfl, hk⟩
  have hl' : (a0.size : Int) ≤ 60 := by omega
  have hs : a0.size ≤ 9223372036854775807 := by omega
  clear w0 w1 hl
  have H1 := Lib.hid (fun w hT => known_c w hT)
  have H2 := fun w hT => tag_c a0 w hT
  have H3 := fun w hT => kindw_c a0 w hT hs
  have HT := Lib.hid hT
  clear hT hs
  cases hb : Wrd.base a0
  · obtain ⟨e1, e2, e3⟩ := base_no hb
    rw [e1, e2] at H2
    replace H2 := Lib.hid H2
    replace H3 := Lib.hid H3
    clear hb e1 e2
    generalize Wrd.kind a0 = kd at *
    have hcase : (a1 < 1 ∨ 5 < a1) ∨ (1 ≤ a1 ∧ a1 ≤ 5) := by omega
    rcases hcase with ho | ⟨h1, h2⟩
    · obtain ⟨o1, o2⟩ := oft_out ho
      have H4 := fun w hT => oft_c a1 w hT
      rw [o1, o2] at H4
      replace H4 := Lib.hid H4
      clear o1 o2
      rcases ho with ho | ho
      · have d1 : decide (1 ≤ a1) = false := decide_eq_false (by omega)
        go_enter Tryd.func6, Tryd.ntmps6
        go_wp2_with fail
        refine (H1.out _ (HT.out)).mono ?_
        rintro e w1 ⟨rfl, k1⟩
        have T1 := Lib.hid ((HT.out).kept k1)
        have K1 := Lib.hid k1
        clear k1
        go_wp2_with fail
        refine (H2.out _ (T1.out)).mono ?_
        rintro e w2 ⟨rfl, k2⟩
        have T2 := Lib.hid ((T1.out).kept k2)
        have K2 := Lib.hid (K1.out.trans k2)
        clear k2
        go_wp2_with fail
        refine (H3.out _ (T2.out)).mono ?_
        rintro e w3 ⟨rfl, k3⟩
        have T3 := Lib.hid ((T2.out).kept k3)
        have K3 := Lib.hid (K2.out.trans k3)
        clear k3
        go_wp2_with fail
        refine (H4.out _ (T3.out)).mono ?_
        rintro e w4 ⟨rfl, k4⟩
        have T4 := Lib.hid ((T3.out).kept k4)
        have K4 := Lib.hid (K3.out.trans k4)
        clear k4
        go_wp2_with fail
        go_ret
        exact ⟨rfl, K4.out⟩
      · have d1 : 1 ≤ a1 := by omega
        have d2 : decide (a1 ≤ 5) = false := decide_eq_false (by omega)
        go_enter Tryd.func6, Tryd.ntmps6
        go_wp2_with fail
        refine (H1.out _ (HT.out)).mono ?_
        rintro e w1 ⟨rfl, k1⟩
        have T1 := Lib.hid ((HT.out).kept k1)
        have K1 := Lib.hid k1
        clear k1
        go_wp2_with fail
        refine (H2.out _ (T1.out)).mono ?_
        rintro e w2 ⟨rfl, k2⟩
        have T2 := Lib.hid ((T1.out).kept k2)
        have K2 := Lib.hid (K1.out.trans k2)
        clear k2
        go_wp2_with fail
        refine (H3.out _ (T2.out)).mono ?_
        rintro e w3 ⟨rfl, k3⟩
        have T3 := Lib.hid ((T2.out).kept k3)
        have K3 := Lib.hid (K2.out.trans k3)
        clear k3
        go_wp2_with fail
        refine (H4.out _ (T3.out)).mono ?_
        rintro e w4 ⟨rfl, k4⟩
        have T4 := Lib.hid ((T3.out).kept k4)
        have K4 := Lib.hid (K3.out.trans k4)
        clear k4
        go_wp2_with fail
        go_ret
        exact ⟨rfl, K4.out⟩
    · obtain ⟨o2, o3, o4⟩ := of_in h1 h2
      have H4 := fun w hT => oft_c a1 w hT
      rw [o2] at H4
      replace H4 := Lib.hid H4
      have H7 := Lib.hid (fun w hT => tags_v (Wrd.ofT a1) a1 0 w hT o3 o4)
      have d2 : decide (a1 ≤ 5) = true := decide_eq_true h2
      clear o2 o3 o4
      generalize Wrd.ofT a1 = x at *
      go_enter Tryd.func6, Tryd.ntmps6
      go_wp2_with fail
      refine (H1.out _ (HT.out)).mono ?_
      rintro e w1 ⟨rfl, k1⟩
      have T1 := Lib.hid ((HT.out).kept k1)
      have K1 := Lib.hid k1
      clear k1
      go_wp2_with fail
      refine (H2.out _ (T1.out)).mono ?_
      rintro e w2 ⟨rfl, k2⟩
      have T2 := Lib.hid ((T1.out).kept k2)
      have K2 := Lib.hid (K1.out.trans k2)
      clear k2
      go_wp2_with fail
      refine (H3.out _ (T2.out)).mono ?_
      rintro e w3 ⟨rfl, k3⟩
      have T3 := Lib.hid ((T2.out).kept k3)
      have K3 := Lib.hid (K2.out.trans k3)
      clear k3
      go_wp2_with fail
      refine (H4.out _ (T3.out)).mono ?_
      rintro e w4 ⟨rfl, k4⟩
      have T4 := Lib.hid ((T3.out).kept k4)
      have K4 := Lib.hid (K3.out.trans k4)
      clear k4
      go_wp2_with fail
      refine (H7.out _ (T4.out)).mono ?_
      rintro e w5 ⟨rfl, k5⟩
      have T5 := Lib.hid ((T4.out).kept k5)
      have K5 := Lib.hid (K4.out.trans k5)
      clear k5
      go_wp2_with fail
      go_ret
      exact ⟨rfl, K5.out⟩
  · obtain ⟨e1, e2, e3, e4, e5⟩ := base_yes hb
    rw [e5] at H2
    rw [e4] at H3
    replace H2 := Lib.hid H2
    replace H3 := Lib.hid H3
    have H5 := Lib.hid (fun w hT => of_v (Wrd.tag a0) a0 0 w hT e1 e2)
    have H6 := fun w hT => reserved_c a0 w hT
    rw [e3] at H6
    replace H6 := Lib.hid H6
    clear hb e1 e2 e3 e4 e5
    generalize Wrd.tag a0 = tg at *
    have hcase : (a1 < 1 ∨ 5 < a1) ∨ (1 ≤ a1 ∧ a1 ≤ 5) := by omega
    rcases hcase with ho | ⟨h1, h2⟩
    · obtain ⟨o1, o2⟩ := oft_out ho
      have H4 := fun w hT => oft_c a1 w hT
      rw [o1, o2] at H4
      replace H4 := Lib.hid H4
      clear o1 o2
      rcases ho with ho | ho
      · have d1 : decide (1 ≤ a1) = false := decide_eq_false (by omega)
        go_enter Tryd.func6, Tryd.ntmps6
        go_wp2_with fail
        refine (H1.out _ (HT.out)).mono ?_
        rintro e w1 ⟨rfl, k1⟩
        have T1 := Lib.hid ((HT.out).kept k1)
        have K1 := Lib.hid k1
        clear k1
        go_wp2_with fail
        refine (H2.out _ (T1.out)).mono ?_
        rintro e w2 ⟨rfl, k2⟩
        have T2 := Lib.hid ((T1.out).kept k2)
        have K2 := Lib.hid (K1.out.trans k2)
        clear k2
        go_wp2_with fail
        refine (H3.out _ (T2.out)).mono ?_
        rintro e w3 ⟨rfl, k3⟩
        have T3 := Lib.hid ((T2.out).kept k3)
        have K3 := Lib.hid (K2.out.trans k3)
        clear k3
        go_wp2_with fail
        refine (H5.out _ (T3.out)).mono ?_
        rintro e w4 ⟨rfl, k4⟩
        have T4 := Lib.hid ((T3.out).kept k4)
        have K4 := Lib.hid (K3.out.trans k4)
        clear k4
        go_wp2_with fail
        refine (H6.out _ (T4.out)).mono ?_
        rintro e w5 ⟨rfl, k5⟩
        have T5 := Lib.hid ((T4.out).kept k5)
        have K5 := Lib.hid (K4.out.trans k5)
        clear k5
        go_wp2_with fail
        refine (H4.out _ (T5.out)).mono ?_
        rintro e w6 ⟨rfl, k6⟩
        have T6 := Lib.hid ((T5.out).kept k6)
        have K6 := Lib.hid (K5.out.trans k6)
        clear k6
        go_wp2_with fail
        go_ret
        exact ⟨rfl, K6.out⟩
      · have d1 : 1 ≤ a1 := by omega
        have d2 : decide (a1 ≤ 5) = false := decide_eq_false (by omega)
        go_enter Tryd.func6, Tryd.ntmps6
        go_wp2_with fail
        refine (H1.out _ (HT.out)).mono ?_
        rintro e w1 ⟨rfl, k1⟩
        have T1 := Lib.hid ((HT.out).kept k1)
        have K1 := Lib.hid k1
        clear k1
        go_wp2_with fail
        refine (H2.out _ (T1.out)).mono ?_
        rintro e w2 ⟨rfl, k2⟩
        have T2 := Lib.hid ((T1.out).kept k2)
        have K2 := Lib.hid (K1.out.trans k2)
        clear k2
        go_wp2_with fail
        refine (H3.out _ (T2.out)).mono ?_
        rintro e w3 ⟨rfl, k3⟩
        have T3 := Lib.hid ((T2.out).kept k3)
        have K3 := Lib.hid (K2.out.trans k3)
        clear k3
        go_wp2_with fail
        refine (H5.out _ (T3.out)).mono ?_
        rintro e w4 ⟨rfl, k4⟩
        have T4 := Lib.hid ((T3.out).kept k4)
        have K4 := Lib.hid (K3.out.trans k4)
        clear k4
        go_wp2_with fail
        refine (H6.out _ (T4.out)).mono ?_
        rintro e w5 ⟨rfl, k5⟩
        have T5 := Lib.hid ((T4.out).kept k5)
        have K5 := Lib.hid (K4.out.trans k5)
        clear k5
        go_wp2_with fail
        refine (H4.out _ (T5.out)).mono ?_
        rintro e w6 ⟨rfl, k6⟩
        have T6 := Lib.hid ((T5.out).kept k6)
        have K6 := Lib.hid (K5.out.trans k6)
        clear k6
        go_wp2_with fail
        go_ret
        exact ⟨rfl, K6.out⟩
    · obtain ⟨o2, o3, o4⟩ := of_in h1 h2
      have H4 := fun w hT => oft_c a1 w hT
      rw [o2] at H4
      replace H4 := Lib.hid H4
      have H7 := Lib.hid (fun w hT => tags_v (Wrd.ofT a1) a1 0 w hT o3 o4)
      have d2 : decide (a1 ≤ 5) = true := decide_eq_true h2
      clear o2 o3 o4
      generalize Wrd.ofT a1 = x at *
      go_enter Tryd.func6, Tryd.ntmps6
      go_wp2_with fail
      refine (H1.out _ (HT.out)).mono ?_
      rintro e w1 ⟨rfl, k1⟩
      have T1 := Lib.hid ((HT.out).kept k1)
      have K1 := Lib.hid k1
      clear k1
      go_wp2_with fail
      refine (H2.out _ (T1.out)).mono ?_
      rintro e w2 ⟨rfl, k2⟩
      have T2 := Lib.hid ((T1.out).kept k2)
      have K2 := Lib.hid (K1.out.trans k2)
      clear k2
      go_wp2_with fail
      refine (H3.out _ (T2.out)).mono ?_
      rintro e w3 ⟨rfl, k3⟩
      have T3 := Lib.hid ((T2.out).kept k3)
      have K3 := Lib.hid (K2.out.trans k3)
      clear k3
      go_wp2_with fail
      refine (H5.out _ (T3.out)).mono ?_
      rintro e w4 ⟨rfl, k4⟩
      have T4 := Lib.hid ((T3.out).kept k4)
      have K4 := Lib.hid (K3.out.trans k4)
      clear k4
      go_wp2_with fail
      refine (H6.out _ (T4.out)).mono ?_
      rintro e w5 ⟨rfl, k5⟩
      have T5 := Lib.hid ((T4.out).kept k5)
      have K5 := Lib.hid (K4.out.trans k5)
      clear k5
      go_wp2_with fail
      refine (H4.out _ (T5.out)).mono ?_
      rintro e w6 ⟨rfl, k6⟩
      have T6 := Lib.hid ((T5.out).kept k6)
      have K6 := Lib.hid (K5.out.trans k6)
      clear k6
      go_wp2_with fail
      refine (H7.out _ (T6.out)).mono ?_
      rintro e w7 ⟨rfl, k7⟩
      have T7 := Lib.hid ((T6.out).kept k7)
      have K7 := Lib.hid (K6.out.trans k7)
      clear k7
      go_wp2_with fail
      go_ret
      exact ⟨rfl, K7.out⟩

theorem own : ownKnob Tryd.prog.godebug = none := by kernel_rfl
theorem tab0 {W : World} (h : laidMetH Tryd.prog Rows.wordsTagsRow.laid W) : Tb W := by
  have h' : laidMet Tryd.prog Rows.wordsTagsRow.laid W := h
  have r0 := Lib.laidMet.reads (n := "strings.asciiSpace") (d := Rows.laid_strings_asciiSpace) h' (.tail _ (.tail _ (.head _)))
  rw [show (Rows.laid_strings_asciiSpace : DataW Unit) = (Lib.tabData .u8 spl : DataW Unit) by kernel_rfl] at r0
  have r1 := Lib.laidMet.reads (n := "chaperon/words.bases") (d := Rows.laid_chaperon_words_bases) h' (.tail _ (.tail _ (.tail _ (.head _))))
  rw [show (Rows.laid_chaperon_words_bases : DataW Unit) = (basesD : DataW Unit) by kernel_rfl] at r1
  exact tb_of_reads r0 r1
theorem contract (H : Type) (enc : TypeId × Value → H) (W : World) (base : Nat) (args : Array Value) (ds gs : List (DataW H)) (before : List MemPlace)
    (hval : ∀ (j : Nat) t v, Tryd.f6.params[j]? = some t → args[j]? = some v → Value.okWide Tryd.prog W .any base t v)
    (hW : DataW.Whole enc Tryd.prog Tryd.f6.params.toList Rows.wordsTagsSpec.vars false W args.toList ds gs before) (hL : laidMetH Tryd.prog Rows.wordsTagsRow.laid W) :
    Calls Tryd.prog 6 args W fun e W' => ∃ v, e = .returned v ∧ Rows.wordsTagsSpec.post enc Tryd.prog Tryd.f6 false true false false W args v W' := by
  have hW' := hW
  obtain ⟨p, q, hA0, hV, rfl, hfz, hnd⟩ := hW
  have hA : DataW.TrodAll enc Tryd.prog W 0 (fun _ => true) true Tryd.f6.params.toList args.toList ds p := hA0
  rw [Tryd.params6] at hA hval
  obtain ⟨v0, vs0, d0, ds0, p0, q0, hargs, rfl, rfl, h0, r0⟩ := trodAll_cons hA
  obtain ⟨v1, vs1, d1, ds1, p1, q1, rfl, rfl, rfl, h1, r1⟩ := trodAll_cons r0
  obtain ⟨rfl, rfl, rfl⟩ := trodAll_nil r1
  obtain rfl : args = #[v0, v1] := by cases args; simp_all
  obtain ⟨rfl, rfl⟩ := trodVars_none hV
  obtain ⟨a0, rfl, rfl, rfl, w0⟩ := open_string Tryd.underlying9 (hval 0 9 v0 rfl rfl) h0
  obtain ⟨a1, rfl, rfl, rfl, w1⟩ := open_int Tryd.underlying3 (hval 1 3 v1 rfl rfl) h1
  clear hA0
  simp only [List.append_nil] at hW'
  refine (walk a0 a1 w0 w1 W (tab0 hL)).mono fun e W' ⟨he, hg⟩ => ?_
  subst he
  exact ⟨_, rfl, post_of_kept (pa := []) (pv := []) hW' (fun _ _ _ => (trodAll_cons_mk (shut_bool Tryd.underlying4 _) trodAll_mk0)) (fun sp _ => (trodAll_cons_mk (shut_string Tryd.underlying9 w0) (trodAll_cons_mk (shut_int Tryd.underlying3 w1) trodAll_mk0))) (fun _ _ => rfl) rfl
    hg (ok_one (by kernel_rfl) rfl (okWide_bool_mk Tryd.underlying4 _))⟩

set_option maxRecDepth 100000 in
theorem lifted (os : Os) (started : os.Started) (H : Type) (enc : TypeId × Value → H) :
    ReturnsInHanded {} Tryd.checked os 6 .any (fun w args => (Rows.wordsTagsSpec.pre enc Tryd.prog Tryd.f6 [] false w args ∧ laidMetH Tryd.prog Rows.wordsTagsRow.laid w) ∧ sizedMet enc Tryd.prog Tryd.f6 (OpenSpec.ofChange Rows.wordsTagsSpec) false w args)
      (Rows.wordsTagsSpec.post enc Tryd.prog Tryd.f6 false true false false) := by
  refine returnsInHanded_of_change_and (C := Tryd.checked) (X := fun w _ => laidMetH Tryd.prog Rows.wordsTagsRow.laid w) (fun _ _ _ hh h => h.of_heap hh) own started (by kernel_rfl) Tryd.func6
    (ChangeSpec.witness_shaped (enc := enc) (C := Tryd.checked) (os := os) (X := fun w _ => laidMetH Tryd.prog Rows.wordsTagsRow.laid w) false (World.laidAll Tryd.prog os Rows.wordsTagsRow.laid) #[.string ByteArray.empty, .int .i64 0] 8 (World.laidAll_os _ _ _)
      (World.shaped_of_ZipB (by kernel_rfl) (by kernel_rfl)) (by kernel_rfl) (by kernel_rfl) (by kernel_rfl)
      (by rw [MakeChecks.laidMetH_plain _ _ _ (by kernel_rfl)]; exact laidMet_laidAll _ (by kernel_rfl) (by kernel_rfl))) ?_
  intro W base args ds gs before hval0 hW _ _ hL _
  exact contract H enc W base args ds gs before hval0 hW hL

theorem said : Rows.WordsTagsSaid :=
  OpenClaim.holds_of_wide 6 Tryd.f6 rfl rfl rfl rfl rfl rfl rfl ⟨rfl, rfl, rfl, rfl, rfl⟩ rfl rfl rfl rfl rfl (by kernel_rfl) Tryd.func6 (by kernel_rfl)
    (of_decide_eq_true (by kernel_rfl)) (by unfold Func.isWrapper; first | (rw [if_pos (by decide +kernel)]; kernel_rfl) | (rw [if_neg (by decide +kernel)]; exact ⟨rfl, rfl⟩))
    (fun os started H enc _ => lifted os started H enc)

theorem plain (f : FuncId) (fn : Func) (hf : Tryd.pinned.checked.prog.funcNamed Tryd.f6.name = some f) (hfn : Tryd.pinned.checked.prog.funcs[f]? = some fn) :
    false = Tryd.pinned.checked.prog.looks [] ∧ ∀ (j : Nat) t, fn.params[j]? = some t → Tryd.pinned.checked.prog.wantsStandIn t = false := by
  obtain rfl : f = 6 := Option.some.inj ((show Tryd.prog.funcNamed Tryd.f6.name = some 6 by kernel_rfl).symm.trans hf) |>.symm
  obtain rfl : fn = Tryd.f6 := (Option.some.inj (Tryd.func6.symm.trans hfn)).symm
  refine ⟨by kernel_rfl, fun j t ht => ?_⟩
  rw [Tryd.params6] at ht
  have hm := Array.mem_of_getElem? ht
  simp at hm
  rcases hm with rfl | rfl
  · exact (show Tryd.prog.wantsStandIn 9 = false by kernel_rfl)
  · exact (show Tryd.prog.wantsStandIn 3 = false by kernel_rfl)

theorem proved : Rows.WordsTagsCardSaid :=
  Claim7.holds_tied_plain_at .later [] _ _ _ _ said (fun _ h => by cases h) (by kernel_rfl) (fun _ h => by cases h) wordsTags_row_tie rfl ⟨rfl, rfl⟩ (by kernel_rfl) rfl plain (by kernel_rfl)
#print axioms proved
end Go.Proofs.YtijflampkdpgfaaDoor.wordsTags
