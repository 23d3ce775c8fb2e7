/- WordsReserved returns true. The tables of words, strings, unicode and unicode/utf8 are as the program's text lays them; no other condition. -/
import Derived.Test.YtijflampkdpgfaaDoorCards
import Derived.Test.YtijflampkdpgfaaDoorTie
import Derived.Test.YtijflampkdpgfaaDoorLok
import Derived.BigQuiet
import Derived.Deep.QuietTactic
import Derived.Test.YtijflampkdpgfaaDoorTbl
import Derived.WalkKit
import Derived.ProofKit
import Derived.OpenShut
import Derived.ShutString
import Derived.Deep.DeepHandedRow
import Derived.Lib.LaidU8
import Derived.Lay
set_option linter.unusedVariables false
set_option linter.unusedSimpArgs false
namespace Go.Proofs.YtijflampkdpgfaaDoor.wordsReserved
open Go.ChangeShapes Go.WideShapes Go.ChangeAt Go.RowKit
open Go.ChangeMaps (open_string shut_string)

/-- How many of the first k reserved words are types. -/
def cnt (k : Nat) : Nat := ((Wrd.ws.take k).filter Wrd.typ).length
theorem cnt_next (k : Nat) (hk : k < Wrd.ws.length) : cnt (k + 1) = cnt k + if Wrd.typ (Wrd.ws[k]) then 1 else 0 := by
  unfold cnt
  rw [List.take_succ_eq_append_getElem hk, List.filter_append, List.length_append]
  congr 1
  cases h : Wrd.typ Wrd.ws[k] <;> simp [h]
theorem cnt_le (k : Nat) : cnt k ≤ 24 := by
  unfold cnt
  have h1 := List.length_filter_le Wrd.typ (Wrd.ws.take k)
  have h2 : (Wrd.ws.take k).length ≤ Wrd.ws.length := List.length_take_le' k Wrd.ws
  rw [len_ws'] at h2
  omega
theorem cnt_all : cnt 24 = 5 := by decide +kernel
theorem no_names : ∀ x ∈ Wrd.ws, Wrd.name x = false ∧ Wrd.cls x = false ∧ x.size ≤ 20 := by decide +kernel
theorem apart : ∀ i < 24, ∀ j < i, Wrd.ws.getD j ⟨#[]⟩ ≠ Wrd.ws.getD i ⟨#[]⟩ := by decide +kernel
theorem apart_at {i j : Nat} (hi : i < Wrd.ws.length) (hj : j < i) : ¬ Wrd.ws[j]'(by omega) = Wrd.ws[i] := by
  have h := apart i hi j hj
  rw [List.getD_eq_getElem?_getD, List.getD_eq_getElem?_getD, List.getElem?_eq_getElem hi, List.getElem?_eq_getElem (show j < Wrd.ws.length by omega)] at h
  exact h
set_option maxHeartbeats 8000000 in
theorem walk  (w : World) (hT0 : Tb w) :
    Calls Tryd.prog 7 #[] w fun e w' => e = .returned (.bool true) ∧ Kept w w' := by
  have hT := hT0
  clear hT0
  go_enter Tryd.func7, Tryd.ntmps7
  go_wp2_with fail
  refine (reserved_b _ hT).mono ?_
  rintro e w1 ⟨v, rfl, ⟨g, c, rfl, hg, ht⟩, k1⟩
  rw [len_ws']
  go_wp2_with fail
  go_loopw [2, 3] (fun n i wr => ∃ k : Nat, k ≤ 24 ∧ i = .int .i64 k ∧ n = .int .i64 (cnt k) ∧ Kept w wr ∧ Tb wr ∧ TxtAt wr g Wrd.ws) (fun n i wr => 24 - (intOf i).toNat)
  case atStart => exact ⟨0, by omega, rfl, rfl, k1, hT.kept k1, ht⟩
  case round =>
    obtain ⟨k, hk, rfl, rfl, hkp, hTr, htr⟩ := hrel
    clear ht hT k1
    by_cases hlt : k < 24
    · have hc := htr.cell k hlt
      have hno := no_names (Wrd.ws[k]'hlt) (List.getElem_mem hlt)
      have hcn := cnt_next k hlt
      have hap : ∀ j (hj : j < k), ((Wrd.ws[j]'(by rw [len_ws']; omega)).toList == (Wrd.ws[k]'hlt).toList) = false := fun j hj => beq_no (apart_at hlt hj)
      have HN := Lib.hid (fun w hT => name_v (Wrd.ws[k]'hlt) false w hT hno.1 (by omega))
      have HC := Lib.hid (fun w hT => class_v (Wrd.ws[k]'hlt) false w hT hno.2.1 (by omega))
      have HY := Lib.hid (fun w hT => type_v (Wrd.ws[k]'hlt) _ w hT rfl (by omega))
      have HCX := Lib.hid (fun W (h : TxtAt W g Wrd.ws) => h.cell k hlt)
      have HA := Lib.hid hap
      have HT := Lib.hid hTr
      have HX := Lib.hid htr
      have HK := Lib.hid hkp
      have hcl := cnt_le k
      clear hap hno hTr htr hkp
      generalize (Wrd.ws[k]'hlt) = x at *
      generalize Wrd.typ x = ty at *
      have HCN := Lib.hid hcn
      clear hcn
      go_wp2_with fail
      refine (HN.out _ HT.out).mono ?_
      rintro e w2 ⟨rfl, k2⟩
      have T2 := Lib.hid (HT.out.kept k2)
      have X2 := Lib.hid (HX.out.kept k2)
      have K2 := Lib.hid (HK.out.trans k2)
      have c2 := HCX.out _ X2.out
      clear k2 hc
      go_wp2_with fail
      refine (HC.out _ T2.out).mono ?_
      rintro e w3 ⟨rfl, k3⟩
      have T3 := Lib.hid (T2.out.kept k3)
      have X3 := Lib.hid (X2.out.kept k3)
      have K3 := Lib.hid (K2.out.trans k3)
      have c3 := HCX.out _ X3.out
      clear k3 c2
      go_wp2_with fail
      refine (HY.out _ T3.out).mono ?_
      rintro e w4 ⟨rfl, k4⟩
      have T4 := Lib.hid (T3.out.kept k4)
      have X4 := Lib.hid (X3.out.kept k4)
      have K4 := Lib.hid (K3.out.trans k4)
      clear k4 c3 T2 T3 X2 X3 K2 K3 HN HC HY HT HX HK
      cases ty
      all_goals
        have hcv := HCN.out
        simp only [if_true, if_false, Bool.false_eq_true, Nat.add_zero] at hcv
        have HCV := Lib.hid hcv
        clear hcv HCN
        go_wp2
        go_loopw [4] (fun j wr => ∃ q : Nat, q ≤ k ∧ j = .int .i64 q ∧ Kept w wr ∧ Tb wr ∧ TxtAt wr g Wrd.ws) (fun j wr => k - (intOf j).toNat)
        case atStart => exact ⟨0, by omega, rfl, K4.out, T4.out, X4.out⟩
        case round =>
          obtain ⟨q, hq, rfl, hkp, hTr, htr⟩ := hrel
          clear T4 X4 K4
          by_cases hqk : q < k
          · have cx := HCX.out _ htr
            have cy := htr.cell q (by rw [len_ws']; omega)
            have hne := HA.out q hqk
            have HT := Lib.hid hTr
            have HX := Lib.hid htr
            clear hTr htr
            generalize (Wrd.ws[q]'(by rw [len_ws']; omega)) = y at *
            go_wp2
            go_quiet (fail)
            go_wp2
            go_roundw
            case rel => exact ⟨q + 1, by omega, by go_num, hkp.drewN _, HT.out.kept ((Kept.refl _).drewN _), HX.out.kept ((Kept.refl _).drewN _)⟩
            case measure => simp [intOf]; omega
          · obtain rfl : q = k := by omega
            have HT := Lib.hid hTr
            have HX := Lib.hid htr
            clear hTr htr HCX HA
            go_wp2
            go_roundw
            case rel => exact ⟨q + 1, by omega, by go_num, (by first | (rw [HCV.out]; done) | (rw [HCV.out]; go_num)), hkp, HT.out, HX.out⟩
            case measure => simp [intOf]; omega
    · obtain rfl : k = 24 := by omega
      have HK := Lib.hid hkp
      have HKN := Lib.hid (fun w hT => known_c w hT)
      rw [cnt_all]
      clear htr
      go_wp2_with fail
      refine (HKN.out _ hTr).mono ?_
      rintro e w2 ⟨rfl, k2⟩
      go_wp2_with fail
      go_ret
      exact ⟨rfl, HK.out.trans k2⟩

theorem own : ownKnob Tryd.prog.godebug = none := by kernel_rfl
theorem tab0 {W : World} (h : laidMetH Tryd.prog Rows.wordsReservedRow.laid W) : Tb W := by
  have h' : laidMet Tryd.prog Rows.wordsReservedRow.laid W := h
  have r0 := Lib.laidMet.reads (n := "strings.asciiSpace") (d := Rows.laid_strings_asciiSpace) h' (.tail _ (.tail _ (.head _)))
  rw [show (Rows.laid_strings_asciiSpace : DataW Unit) = (Lib.tabData .u8 spl : DataW Unit) by kernel_rfl] at r0
  have r1 := Lib.laidMet.reads (n := "chaperon/words.bases") (d := Rows.laid_chaperon_words_bases) h' (.tail _ (.tail _ (.tail _ (.head _))))
  rw [show (Rows.laid_chaperon_words_bases : DataW Unit) = (basesD : DataW Unit) by kernel_rfl] at r1
  exact tb_of_reads r0 r1
theorem contract (H : Type) (enc : TypeId × Value → H) (W : World) (base : Nat) (args : Array Value) (ds gs : List (DataW H)) (before : List MemPlace)
    (hval : ∀ (j : Nat) t v, Tryd.f7.params[j]? = some t → args[j]? = some v → Value.okWide Tryd.prog W .any base t v)
    (hW : DataW.Whole enc Tryd.prog Tryd.f7.params.toList Rows.wordsReservedSpec.vars false W args.toList ds gs before) (hL : laidMetH Tryd.prog Rows.wordsReservedRow.laid W) :
    Calls Tryd.prog 7 args W fun e W' => ∃ v, e = .returned v ∧ Rows.wordsReservedSpec.post enc Tryd.prog Tryd.f7 false true false false W args v W' := by
  have hW' := hW
  obtain ⟨p, q, hA0, hV, rfl, hfz, hnd⟩ := hW
  have hA : DataW.TrodAll enc Tryd.prog W 0 (fun _ => true) true Tryd.f7.params.toList args.toList ds p := hA0
  rw [Tryd.params7] at hA hval
  obtain ⟨rfl, rfl, rfl⟩ := trodAll_none hA
  obtain ⟨rfl, rfl⟩ := trodVars_none hV
  clear hA0
  simp only [List.append_nil] at hW'
  refine (walk  W (tab0 hL)).mono fun e W' ⟨he, hg⟩ => ?_
  subst he
  exact ⟨_, rfl, post_of_kept (pa := []) (pv := []) hW' (fun _ _ _ => (trodAll_cons_mk (shut_bool Tryd.underlying4 _) trodAll_mk0)) (fun sp _ => rfl) (fun _ _ => rfl) rfl
    hg (ok_one (by kernel_rfl) rfl (okWide_bool_mk Tryd.underlying4 _))⟩

set_option maxRecDepth 100000 in
theorem lifted (os : Os) (started : os.Started) (H : Type) (enc : TypeId × Value → H) :
    ReturnsInHanded {} Tryd.checked os 7 .any (fun w args => (Rows.wordsReservedSpec.pre enc Tryd.prog Tryd.f7 [] false w args ∧ laidMetH Tryd.prog Rows.wordsReservedRow.laid w) ∧ sizedMet enc Tryd.prog Tryd.f7 (OpenSpec.ofChange Rows.wordsReservedSpec) false w args)
      (Rows.wordsReservedSpec.post enc Tryd.prog Tryd.f7 false true false false) := by
  refine returnsInHanded_of_change_and (C := Tryd.checked) (X := fun w _ => laidMetH Tryd.prog Rows.wordsReservedRow.laid w) (fun _ _ _ hh h => h.of_heap hh) own started (by kernel_rfl) Tryd.func7
    (ChangeSpec.witness_shaped (enc := enc) (C := Tryd.checked) (os := os) (X := fun w _ => laidMetH Tryd.prog Rows.wordsReservedRow.laid w) false (World.laidAll Tryd.prog os Rows.wordsReservedRow.laid) #[] 8 (World.laidAll_os _ _ _)
      (World.shaped_of_ZipB (by kernel_rfl) (by kernel_rfl)) (by kernel_rfl) (by kernel_rfl) (by kernel_rfl)
      (by rw [MakeChecks.laidMetH_plain _ _ _ (by kernel_rfl)]; exact laidMet_laidAll _ (by kernel_rfl) (by kernel_rfl))) ?_
  intro W base args ds gs before hval0 hW _ _ hL _
  exact contract H enc W base args ds gs before hval0 hW hL

theorem said : Rows.WordsReservedSaid :=
  OpenClaim.holds_of_wide 7 Tryd.f7 rfl rfl rfl rfl rfl rfl rfl ⟨rfl, rfl, rfl, rfl, rfl⟩ rfl rfl rfl rfl rfl (by kernel_rfl) Tryd.func7 (by kernel_rfl)
    (of_decide_eq_true (by kernel_rfl)) (by unfold Func.isWrapper; first | (rw [if_pos (by decide +kernel)]; kernel_rfl) | (rw [if_neg (by decide +kernel)]; exact ⟨rfl, rfl⟩))
    (fun os started H enc _ => lifted os started H enc)

theorem plain (f : FuncId) (fn : Func) (hf : Tryd.pinned.checked.prog.funcNamed Tryd.f7.name = some f) (hfn : Tryd.pinned.checked.prog.funcs[f]? = some fn) :
    false = Tryd.pinned.checked.prog.looks [] ∧ ∀ (j : Nat) t, fn.params[j]? = some t → Tryd.pinned.checked.prog.wantsStandIn t = false := by
  obtain rfl : f = 7 := Option.some.inj ((show Tryd.prog.funcNamed Tryd.f7.name = some 7 by kernel_rfl).symm.trans hf) |>.symm
  obtain rfl : fn = Tryd.f7 := (Option.some.inj (Tryd.func7.symm.trans hfn)).symm
  refine ⟨by kernel_rfl, fun j t ht => ?_⟩
  rw [Tryd.params7] at ht
  simp at ht

theorem proved : Rows.WordsReservedCardSaid :=
  Claim7.holds_tied_plain_at .later [] _ _ _ _ said (fun _ h => by cases h) (by kernel_rfl) (fun _ h => by cases h) wordsReserved_row_tie rfl ⟨rfl, rfl⟩ (by kernel_rfl) rfl plain (by kernel_rfl)
#print axioms proved
end Go.Proofs.YtijflampkdpgfaaDoor.wordsReserved
