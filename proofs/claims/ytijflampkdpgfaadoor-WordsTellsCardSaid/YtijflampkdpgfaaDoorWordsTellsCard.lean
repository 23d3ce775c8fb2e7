/- WordsTells returns true for every text and every tag, and leaves its arguments as they were. The tables of words, strings, unicode and unicode/utf8 are as the program's text lays them; no other condition. -/
import Derived.Test.YtijflampkdpgfaaDoorCards
import Derived.Test.YtijflampkdpgfaaDoorTie
import Derived.Test.YtijflampkdpgfaaDoorLok
import Derived.Test.YtijflampkdpgfaaDoorTbl
import Derived.WalkKit
import Derived.ProofKit
import Derived.OpenShut
import Derived.ShutString
import Derived.Deep.DeepHandedRow
import Derived.Lib.LaidU8
import Derived.Lay
set_option linter.unusedVariables false
set_option linter.unusedSimpArgs false
namespace Go.Proofs.YtijflampkdpgfaaDoor.wordsTells
open Go.ChangeShapes Go.WideShapes Go.ChangeAt Go.RowKit
open Go.ChangeMaps (open_string shut_string)

set_option maxHeartbeats 8000000 in
theorem walk (a0 : ByteArray) (a1 : Int) (w0 : a0.size ≤ maxLen) (w1 : (Lit.int .i64 a1).wf = true) (w : World) (hT0 : Tb w) :
    Calls Tryd.prog 3 #[.string a0, .int .i64 a1] w fun e w' => e = .returned (.bool true) ∧ Kept w w' := by
  have hT := hT0
  clear hT0
  by_cases hl : 60 < a0.size
  · have hl' : 60 < (a0.size : Int) := by omega
    unfold maxLen at w0
    go_enter Tryd.func3, Tryd.ntmps3
    go_wp2_with fail
    refine (awake_c _ hT).mono ?_
    rintro e w1 ⟨rfl, hk⟩
    go_wp2_with fail
    go_ret
    exact ⟨rfl, hk⟩
  have hl' : (a0.size : Int) ≤ 60 := by omega
  have hs : a0.size ≤ 9223372036854775807 := by omega
  clear w0 w1 hl
  have Htag := Lib.hid (fun w hT => tag_c a0 w hT)
  have HtagR := Lib.hid (fun w => tagR_c a0 w)
  have Hoft := Lib.hid (fun w hT => oft_c a1 w hT)
  have HoftR := Lib.hid (fun w => oftR_c a1 w)
  have Hnm := Lib.hid (fun w hT => name_c a0 w hT hs)
  have HnmR := Lib.hid (fun w => nameR_c a0 w hs)
  have Hcl := Lib.hid (fun w => class_c a0 w hs)
  have HclR := Lib.hid (fun w => classR_c a0 w hs)
  have Hty := Lib.hid (fun w hT => type_c a0 w hT hs)
  have HtyR := Lib.hid (fun w => typeR_c a0 w hs)
  have Hkd := Lib.hid (fun w hT => kindw_c a0 w hT hs)
  have HkdR := Lib.hid (fun w => kindR_c a0 w hs)
  have Hba := Lib.hid (fun w hT => base_c a0 w hT)
  have HbaR := Lib.hid (fun w => baseR_c a0 w)
  have Hke := Lib.hid (fun w hT => key_c a0 w hT)
  have HkeR := Lib.hid (fun w => keyR_c a0 w)
  have Haw := Lib.hid (fun w hT => awake_c w hT)
  have hc : ((Wrd.ofT a1).toList == (Wrd.ofT a1).toList) = true := beq_self_eq_true _
  unfold TagRPost at HtagR
  unfold OfRPost at HoftR
  have HT := Lib.hid hT
  clear hT hs
  generalize Wrd.tag a0 = xa at *
  generalize Wrd.tagE a0 = xe at *
  generalize Wrd.ofT a1 = xc at *
  generalize Wrd.ofE a1 = xg at *
  generalize Wrd.name a0 = b1 at *
  generalize Wrd.cls a0 = b2 at *
  generalize Wrd.typ a0 = b3 at *
  generalize Wrd.kind a0 = b4 at *
  generalize Wrd.base a0 = b5 at *
  generalize Wrd.key a0 = b6 at *
  go_enter Tryd.func3, Tryd.ntmps3
  go_wp2_with fail
  refine (Htag.out _ (HT.out)).mono ?_
  rintro e w1 ⟨rfl, k1⟩
  have T1 := Lib.hid ((HT.out).kept k1)
  have K1 := Lib.hid (k1)
  clear k1
  go_wp2_with fail
  refine (HtagR.out _).mono ?_
  rintro e w2 ⟨rfl, k2⟩
  have T2 := Lib.hid ((T1.out).kept k2)
  have K2 := Lib.hid (K1.out.trans k2)
  clear k2
  go_wp2_with fail
  refine (Hoft.out _ (T2.out)).mono ?_
  rintro e w3 ⟨rfl, k3⟩
  have T3 := Lib.hid ((T2.out).kept k3)
  have K3 := Lib.hid (K2.out.trans k3)
  clear k3
  go_wp2_with fail
  refine (HoftR.out _).mono ?_
  rintro e w4 ⟨rfl, k4⟩
  have T4 := Lib.hid ((T3.out).kept k4)
  have K4 := Lib.hid (K3.out.trans k4)
  clear k4
  go_wp2_with fail
  refine (reserved_b _ (T4.out)).mono ?_
  rintro e w5 ⟨v5, rfl, ⟨g1, c5, rfl, hg5, ht5⟩, k5⟩
  rw [len_ws']
  have T5 := Lib.hid ((T4.out).kept k5)
  have K5 := Lib.hid (K4.out.trans k5)
  have Xg1 := Lib.hid ht5
  have Gg1 := Lib.hid hg5
  clear ht5 hg5 k5
  go_wp2_with fail
  refine (reservedR_c _).mono ?_
  rintro e w6 ⟨v6, rfl, ⟨g2, c6, rfl, hg6, ht6⟩, k6⟩
  rw [len_ws']
  have T6 := Lib.hid ((T5.out).kept k6)
  have K6 := Lib.hid (K5.out.trans k6)
  have Xg2 := Lib.hid ht6
  have Xg1b := Lib.hid (Xg1.out.kept k6)
  clear ht6 hg6 k6
  go_wp2_with fail
  refine (same_c g1 g2 _ _ Wrd.ws _ (by rw [len_ws']; omega) Xg1b.out Xg2.out).mono ?_
  rintro e w7 ⟨rfl, k7⟩
  have T7 := Lib.hid ((T6.out).kept k7)
  have K7 := Lib.hid (K6.out.trans k7)
  have Xr := Lib.hid (Xg1b.out.kept k7).row
  clear k7
  go_wp2_with fail
  refine (over_c g1 _ 24 _ (by omega) Xr.out).mono ?_
  rintro e w8 ⟨rfl, q8⟩
  have k8 := Kept.only (K7.out) q8 rfl (fun k hk => by rw [hk]; exact Nat.le_trans (K4.out.size) Gg1.out)
  have T8 := Lib.hid (HT.out.kept k8)
  have K8 := Lib.hid k8
  clear k8 q8
  go_wp2_with fail
  refine (reserved_b _ (T8.out)).mono ?_
  rintro e w9 ⟨v9, rfl, ⟨g3, c9, rfl, hg9, ht9⟩, k9⟩
  rw [len_ws']
  have T9 := Lib.hid ((T8.out).kept k9)
  have K9 := Lib.hid (K8.out.trans k9)
  have Xg3 := Lib.hid ht9
  have Gg3 := Lib.hid hg9
  clear ht9 hg9 k9
  go_wp2_with fail
  refine (reservedR_c _).mono ?_
  rintro e w10 ⟨v10, rfl, ⟨g4, c10, rfl, hg10, ht10⟩, k10⟩
  rw [len_ws']
  have T10 := Lib.hid ((T9.out).kept k10)
  have K10 := Lib.hid (K9.out.trans k10)
  have Xg4 := Lib.hid ht10
  have Xg3b := Lib.hid (Xg3.out.kept k10)
  clear ht10 hg10 k10
  go_wp2_with fail
  refine (same_c g3 g4 _ _ Wrd.ws _ (by rw [len_ws']; omega) Xg3b.out Xg4.out).mono ?_
  rintro e w11 ⟨rfl, k11⟩
  have T11 := Lib.hid ((T10.out).kept k11)
  have K11 := Lib.hid (K10.out.trans k11)
  clear k11
  go_wp2_with fail
  refine (Hnm.out _ (T11.out)).mono ?_
  rintro e w12 ⟨rfl, k12⟩
  have T12 := Lib.hid ((T11.out).kept k12)
  have K12 := Lib.hid (K11.out.trans k12)
  clear k12
  go_wp2_with fail
  refine (HnmR.out _).mono ?_
  rintro e w13 ⟨rfl, k13⟩
  have T13 := Lib.hid ((T12.out).kept k13)
  have K13 := Lib.hid (K12.out.trans k13)
  clear k13
  go_wp2_with fail
  refine (Hcl.out _).mono ?_
  rintro e w14 ⟨rfl, k14⟩
  have T14 := Lib.hid ((T13.out).kept k14)
  have K14 := Lib.hid (K13.out.trans k14)
  clear k14
  go_wp2_with fail
  refine (HclR.out _).mono ?_
  rintro e w15 ⟨rfl, rfl⟩
  go_wp2_with fail
  refine (Hty.out _ (T14.out)).mono ?_
  rintro e w15 ⟨rfl, k15⟩
  have T15 := Lib.hid ((T14.out).kept k15)
  have K15 := Lib.hid (K14.out.trans k15)
  clear k15
  go_wp2_with fail
  refine (HtyR.out _).mono ?_
  rintro e w16 ⟨rfl, k16⟩
  have T16 := Lib.hid ((T15.out).kept k16)
  have K16 := Lib.hid (K15.out.trans k16)
  clear k16
  go_wp2_with fail
  refine (Hkd.out _ (T16.out)).mono ?_
  rintro e w17 ⟨rfl, k17⟩
  have T17 := Lib.hid ((T16.out).kept k17)
  have K17 := Lib.hid (K16.out.trans k17)
  clear k17
  go_wp2_with fail
  refine (HkdR.out _).mono ?_
  rintro e w18 ⟨rfl, k18⟩
  have T18 := Lib.hid ((T17.out).kept k18)
  have K18 := Lib.hid (K17.out.trans k18)
  clear k18
  go_wp2_with fail
  refine (Hba.out _ (T18.out)).mono ?_
  rintro e w19 ⟨rfl, k19⟩
  have T19 := Lib.hid ((T18.out).kept k19)
  have K19 := Lib.hid (K18.out.trans k19)
  clear k19
  go_wp2_with fail
  refine (HbaR.out _).mono ?_
  rintro e w20 ⟨rfl, k20⟩
  have T20 := Lib.hid ((T19.out).kept k20)
  have K20 := Lib.hid (K19.out.trans k20)
  clear k20
  go_wp2_with fail
  refine (Hke.out _ (T20.out)).mono ?_
  rintro e w21 ⟨rfl, k21⟩
  have T21 := Lib.hid ((T20.out).kept k21)
  have K21 := Lib.hid (K20.out.trans k21)
  clear k21
  go_wp2_with fail
  refine (HkeR.out _).mono ?_
  rintro e w22 ⟨rfl, k22⟩
  have T22 := Lib.hid ((T21.out).kept k22)
  have K22 := Lib.hid (K21.out.trans k22)
  clear k22
  go_wp2_with fail
  refine (Haw.out _ (T22.out)).mono ?_
  rintro e w23 ⟨rfl, k23⟩
  have T23 := Lib.hid ((T22.out).kept k23)
  have K23 := Lib.hid (K22.out.trans k23)
  clear k23
  go_wp2_with fail
  go_ret
  exact ⟨rfl, K23.out⟩

theorem own : ownKnob Tryd.prog.godebug = none := by kernel_rfl
theorem tab0 {W : World} (h : laidMetH Tryd.prog Rows.wordsTellsRow.laid W) : Tb W := by
  have h' : laidMet Tryd.prog Rows.wordsTellsRow.laid W := h
  have r0 := Lib.laidMet.reads (n := "strings.asciiSpace") (d := Rows.laid_strings_asciiSpace) h' (.tail _ (.tail _ (.head _)))
  rw [show (Rows.laid_strings_asciiSpace : DataW Unit) = (Lib.tabData .u8 spl : DataW Unit) by kernel_rfl] at r0
  have r1 := Lib.laidMet.reads (n := "chaperon/words.bases") (d := Rows.laid_chaperon_words_bases) h' (.tail _ (.tail _ (.tail _ (.head _))))
  rw [show (Rows.laid_chaperon_words_bases : DataW Unit) = (basesD : DataW Unit) by kernel_rfl] at r1
  exact tb_of_reads r0 r1
theorem contract (H : Type) (enc : TypeId × Value → H) (W : World) (base : Nat) (args : Array Value) (ds gs : List (DataW H)) (before : List MemPlace)
    (hval : ∀ (j : Nat) t v, Tryd.f3.params[j]? = some t → args[j]? = some v → Value.okWide Tryd.prog W .any base t v)
    (hW : DataW.Whole enc Tryd.prog Tryd.f3.params.toList Rows.wordsTellsSpec.vars false W args.toList ds gs before) (hL : laidMetH Tryd.prog Rows.wordsTellsRow.laid W) :
    Calls Tryd.prog 3 args W fun e W' => ∃ v, e = .returned v ∧ Rows.wordsTellsSpec.post enc Tryd.prog Tryd.f3 false true false false W args v W' := by
  have hW' := hW
  obtain ⟨p, q, hA0, hV, rfl, hfz, hnd⟩ := hW
  have hA : DataW.TrodAll enc Tryd.prog W 0 (fun _ => true) true Tryd.f3.params.toList args.toList ds p := hA0
  rw [Tryd.params3] at hA hval
  obtain ⟨v0, vs0, d0, ds0, p0, q0, hargs, rfl, rfl, h0, r0⟩ := trodAll_cons hA
  obtain ⟨v1, vs1, d1, ds1, p1, q1, rfl, rfl, rfl, h1, r1⟩ := trodAll_cons r0
  obtain ⟨rfl, rfl, rfl⟩ := trodAll_nil r1
  obtain rfl : args = #[v0, v1] := by cases args; simp_all
  obtain ⟨rfl, rfl⟩ := trodVars_none hV
  obtain ⟨a0, rfl, rfl, rfl, w0⟩ := open_string Tryd.underlying9 (hval 0 9 v0 rfl rfl) h0
  obtain ⟨a1, rfl, rfl, rfl, w1⟩ := open_int Tryd.underlying3 (hval 1 3 v1 rfl rfl) h1
  clear hA0
  simp only [List.append_nil] at hW'
  refine (walk a0 a1 w0 w1 W (tab0 hL)).mono fun e W' ⟨he, hg⟩ => ?_
  subst he
  exact ⟨_, rfl, post_of_kept (pa := []) (pv := []) hW' (fun _ _ _ => (trodAll_cons_mk (shut_bool Tryd.underlying4 _) trodAll_mk0)) (fun sp _ => (trodAll_cons_mk (shut_string Tryd.underlying9 w0) (trodAll_cons_mk (shut_int Tryd.underlying3 w1) trodAll_mk0))) (fun _ _ => rfl) rfl
    hg (ok_one (by kernel_rfl) rfl (okWide_bool_mk Tryd.underlying4 _))⟩

set_option maxRecDepth 100000 in
theorem lifted (os : Os) (started : os.Started) (H : Type) (enc : TypeId × Value → H) :
    ReturnsInHanded {} Tryd.checked os 3 .any (fun w args => (Rows.wordsTellsSpec.pre enc Tryd.prog Tryd.f3 [] false w args ∧ laidMetH Tryd.prog Rows.wordsTellsRow.laid w) ∧ sizedMet enc Tryd.prog Tryd.f3 (OpenSpec.ofChange Rows.wordsTellsSpec) false w args)
      (Rows.wordsTellsSpec.post enc Tryd.prog Tryd.f3 false true false false) := by
  refine returnsInHanded_of_change_and (C := Tryd.checked) (X := fun w _ => laidMetH Tryd.prog Rows.wordsTellsRow.laid w) (fun _ _ _ hh h => h.of_heap hh) own started (by kernel_rfl) Tryd.func3
    (ChangeSpec.witness_shaped (enc := enc) (C := Tryd.checked) (os := os) (X := fun w _ => laidMetH Tryd.prog Rows.wordsTellsRow.laid w) false (World.laidAll Tryd.prog os Rows.wordsTellsRow.laid) #[.string ByteArray.empty, .int .i64 0] 8 (World.laidAll_os _ _ _)
      (World.shaped_of_ZipB (by kernel_rfl) (by kernel_rfl)) (by kernel_rfl) (by kernel_rfl) (by kernel_rfl)
      (by rw [MakeChecks.laidMetH_plain _ _ _ (by kernel_rfl)]; exact laidMet_laidAll _ (by kernel_rfl) (by kernel_rfl))) ?_
  intro W base args ds gs before hval0 hW _ _ hL _
  exact contract H enc W base args ds gs before hval0 hW hL

theorem said : Rows.WordsTellsSaid :=
  OpenClaim.holds_of_wide 3 Tryd.f3 rfl rfl rfl rfl rfl rfl rfl ⟨rfl, rfl, rfl, rfl, rfl⟩ rfl rfl rfl rfl rfl (by kernel_rfl) Tryd.func3 (by kernel_rfl)
    (of_decide_eq_true (by kernel_rfl)) (by unfold Func.isWrapper; first | (rw [if_pos (by decide +kernel)]; kernel_rfl) | (rw [if_neg (by decide +kernel)]; exact ⟨rfl, rfl⟩))
    (fun os started H enc _ => lifted os started H enc)

theorem plain (f : FuncId) (fn : Func) (hf : Tryd.pinned.checked.prog.funcNamed Tryd.f3.name = some f) (hfn : Tryd.pinned.checked.prog.funcs[f]? = some fn) :
    false = Tryd.pinned.checked.prog.looks [] ∧ ∀ (j : Nat) t, fn.params[j]? = some t → Tryd.pinned.checked.prog.wantsStandIn t = false := by
  obtain rfl : f = 3 := Option.some.inj ((show Tryd.prog.funcNamed Tryd.f3.name = some 3 by kernel_rfl).symm.trans hf) |>.symm
  obtain rfl : fn = Tryd.f3 := (Option.some.inj (Tryd.func3.symm.trans hfn)).symm
  refine ⟨by kernel_rfl, fun j t ht => ?_⟩
  rw [Tryd.params3] at ht
  have hm := Array.mem_of_getElem? ht
  simp at hm
  rcases hm with rfl | rfl
  · exact (show Tryd.prog.wantsStandIn 9 = false by kernel_rfl)
  · exact (show Tryd.prog.wantsStandIn 3 = false by kernel_rfl)

theorem proved : Rows.WordsTellsCardSaid :=
  Claim7.holds_tied_plain_at .later [] _ _ _ _ said (fun _ h => by cases h) (by kernel_rfl) (fun _ h => by cases h) wordsTells_row_tie rfl ⟨rfl, rfl⟩ (by kernel_rfl) rfl plain (by kernel_rfl)
#print axioms proved
end Go.Proofs.YtijflampkdpgfaaDoor.wordsTells
