/- The walk of TableOnce over a table that lies in memory. -/
import Derived.Test.YtghmgidnlopmaaaDoorKwn
import Derived.Test.YtghmgidnlopmaaaDoorLgt
import Derived.Test.YtghmgidnlopmaaaDoorVla
set_option linter.unusedSimpArgs false
set_option linter.unusedVariables false
set_option maxRecDepth 100000
namespace Go.Proofs.YtghmgidnlopmaaaDoor
open Go.ChangeShapes Go.WideShapes Go.ChangeAt Go.RowKit

theorem small_of_short {t : List Tab.C} (h : t.length ≤ 9 ∧ ∀ c ∈ t, ShortC c) : Small t :=
  ⟨by omega, fun c hc => by have := (h.2 c hc).1; omega, fun c hc => by have := (h.2 c hc).2.1; omega, fun c hc m hm => by have := (h.2 c hc).2.2 m hm; unfold ShortM at this; omega⟩

set_option maxHeartbeats 4000000 in
theorem once_c (t : List Tab.C) (a : Option Addr) (cp : Nat) (x : Int) (w : World) (hTb : Tb w) (h : TabAt w (.slice a t.length cp) t) (h1 : -9223372036854775808 ≤ x) (h2 : x ≤ 9223372036854775807) :
    Calls Tryd.prog 4 #[.slice a t.length cp, .int .i64 x] w fun e w' => e = .returned (.bool true) ∧ Kept w w' := by
  have HTB := Lib.hid hTb
  have HT := Lib.hid h
  clear hTb h
  go_enter Tryd.func4, Tryd.ntmps4
  go_wp2_with fail
  refine (known_c w HTB.out).mono ?_
  rintro e w1 ⟨rfl, k1⟩
  have HK1 := Lib.hid k1
  have HL := Lib.hid (long_c t (.slice a t.length cp) w1 (tab_kept HT.out k1))
  clear k1
  go_wp2_with fail
  refine HL.out.mono ?_
  rintro e w2 ⟨⟨lb, rfl, hsh⟩, k2⟩
  have HK2 := Lib.hid (HK1.out.trans k2)
  clear k2
  cases lb with
  | true =>
    clear hsh
    go_wp2_with fail
    go_ret
    exact ⟨rfl, HK2.out⟩
  | false =>
    have HSH := Lib.hid (hsh rfl)
    clear hsh
    by_cases h0 : t.length = 0
    · have h0I : (t.length : Int) = 0 := by omega
      go_wp2_with fail
      go_ret
      exact ⟨rfl, HK2.out⟩
    · have h0I : ¬ (t.length : Int) = 0 := by omega
      have HC := Lib.hid (check_c t a cp w2 (HTB.out.kept HK2.out) (tab_kept HT.out HK2.out) (small_of_short HSH.out))
      go_wp2_with fail
      refine HC.out.mono ?_
      rintro e w3 ⟨rfl, k3⟩
      have HK3 := Lib.hid (HK2.out.trans k3)
      clear k3 HC
      obtain ⟨fe, fa, hfe⟩ : ∃ fe fa, Tab.check t = (fe, fa) := ⟨_, _, rfl⟩
      rw [hfe]
      dsimp only
      have HFE := Lib.hid hfe
      clear hfe
      by_cases z1 : fe = 0
      · by_cases z2 : fa = 0
        · subst z1 z2
          have HV := Lib.hid (Tab.valid_of HFE.out)
          have HP := Lib.hid (pick_c x t.length w3 (by omega) (by have := HSH.out.1; omega) h1 h2)
          go_wp2_with fail
          refine HP.out.mono ?_
          rintro e w4 ⟨⟨i, hi, rfl⟩, rfl⟩
          have hcl := (Row.cellsC (tab_kept HT.out HK3.out) hi)
          obtain ⟨b, o, rfl, hcl⟩ := hcl
          have hiI : (i : Int) < (t.length : Int) := by omega
          have hcp : t.length ≤ cp ∧ cp ≤ 9223372036854775807 := by obtain ⟨_, c', e, h1, h2, _⟩ := HT.out; injection e with _ e2 e3; subst e3; exact ⟨h1, h2⟩
          have c0 := hcl.1
          have HG := Lib.hid (HV.out.good hi)
          generalize hnm : (Tab.nth t i).name = nm at c0 HG
          clear hcl HP
          have HM := Lib.hid (members_c (some ⟨b, o, none⟩) cp t nm w4 (tab_kept HT.out HK3.out) (small_of_short HSH.out))
          go_wp2_with fail
          refine HM.out.mono ?_
          rintro e w5 ⟨v5, rfl, hr5, k5⟩
          have hrow := mem_row hr5
          have HK5 := Lib.hid (HK3.out.trans k5)
          obtain ⟨ma, mc, rfl⟩ := owns_slice_n hr5
          have HAP := Lib.hid (fun (i k : Nat) (x y : ByteArray × Int) => HG.out.apart (i := i) (k := k) (x := x) (y := y))
          have HTO := Lib.hid (fun (x : ByteArray × Int) => Tab.told_of HV.out HG.out (x := x))
          have HLE := Lib.hid (Tab.members_length t nm)
          obtain ⟨l, hl⟩ : ∃ l, Tab.members t nm = l := ⟨_, rfl⟩
          rw [hl] at hrow HAP HTO HLE
          rw [hl]
          obtain ⟨ma', mc', e, r1, r2, rat⟩ := hrow
          injection e with e1 _ e3
          subst e1 e3
          unfold maxLen at r2
          have HRA := Lib.hid rat
          have HT5 := Lib.hid (tab_kept HT.out HK5.out)
          clear hr5 k5 HM rat hl c0 hnm HFE HL
          go_wp2_with fail
          go_loopw [8] (fun q wr => ∃ j : Nat, j ≤ l.length ∧ q = .int .i64 j ∧ Kept w5 wr) (fun q wr => l.length - (intOf q).toNat)
          case atStart => exact ⟨0, Nat.zero_le _, rfl, Kept.refl _⟩
          case round =>
            obtain ⟨j, hj, rfl, hkp⟩ := hrel
            by_cases hlt : j < l.length
            · have hltI : (j : Int) < (l.length : Int) := by omega
              have hx : l[j]? = some l[j] := List.getElem?_eq_getElem hlt
              have HX := Lib.hid hx
              obtain ⟨mb, mo, rfl, hm⟩ := HRA.out _ _ hx
              generalize l[j] = y at hx HX hm
              have HMM := Lib.hid hm
              obtain ⟨wo, rfl⟩ : ∃ wo, wo = wr := ⟨_, rfl⟩
              have HKO := Lib.hid hkp
              clear hx hm hkp
              go_wp2_with fail
              go_loopw [9] (fun q wr => ∃ k : Nat, k ≤ j ∧ q = .int .i64 k ∧ Kept w5 wr) (fun q wr => j - (intOf q).toNat)
              case atStart => exact ⟨0, Nat.zero_le _, rfl, HKO.out⟩
              case round =>
                obtain ⟨k, hk, rfl, hkp⟩ := hrel
                have y0 := hkp.cell HMM.out.1
                have y1 := hkp.cell HMM.out.2
                by_cases hlk : k < j
                · have hlkI : (k : Int) < (j : Int) := by omega
                  have hlk2 : (k : Int) < (l.length : Int) := by omega
                  have hz : l[k]? = some l[k] := List.getElem?_eq_getElem (by omega)
                  obtain ⟨zb, zo, ez, hzm⟩ := HRA.out _ _ hz
                  generalize l[k] = z at hz hzm
                  have hne := HAP.out _ _ _ _ HX.out hz hlk
                  injection ez with ez
                  injection ez with e1 e2
                  subst e1 e2
                  have z0 := hkp.cell hzm.1
                  have hb := beq_no hne
                  have HKK := Lib.hid hkp
                  clear hz hzm hkp
                  go_wp2_with fail
                  go_region
                  all_goals
                    go_wp2_with fail
                    go_roundw
                    case rel => exact ⟨k + 1, by omega, by go_num, HKK.out.drew⟩
                    case measure => simp [intOf]; omega
                · have hlkI : ¬ (k : Int) < (j : Int) := by omega
                  have HKK := Lib.hid hkp
                  clear hkp
                  go_wp2_with fail
                  have HA := Lib.hid (arity_c (some ⟨b, o, none⟩) cp t nm y.1 wr (tab_kept HT5.out HKK.out) (small_of_short HSH.out))
                  rw [(HTO.out y (List.mem_of_getElem? HX.out)).1] at HA
                  simp only [Option.getD_some, Option.isSome_some] at HA
                  go_wp2_with fail
                  refine HA.out.mono ?_
                  rintro e w6 ⟨rfl, k6⟩
                  have HK6 := Lib.hid (HKK.out.trans k6)
                  clear k6 HA y0 y1
                  have y0 := HK6.out.cell HMM.out.1
                  have HF := Lib.hid (field_c (some ⟨b, o, none⟩) cp t nm y.1 w6 (tab_kept HT5.out HK6.out) (by have := HSH.out.1; omega))
                  rcases (HTO.out y (List.mem_of_getElem? HX.out)).2 with ⟨ty, f1, f2, f3⟩ | ⟨m, own, f1, f2, f3, f4⟩
                  · rw [f1] at HF
                    simp only [Option.getD_some, Option.isSome_some] at HF
                    have HF2 := Lib.hid f2
                    clear f1 f2
                    go_wp2_with fail
                    refine HF.out.mono ?_
                    rintro e w7 ⟨rfl, k7⟩
                    have HK7 := Lib.hid (HK6.out.trans k7)
                    clear k7 HF y0
                    have y0 := HK7.out.cell HMM.out.1
                    have HMT := Lib.hid (method_c (some ⟨b, o, none⟩) cp t nm y.1 w7 (tab_kept HT5.out HK7.out) (small_of_short HSH.out))
                    go_wp2_with fail
                    refine HMT.out.mono ?_
                    rintro e w8 ⟨k8, ⟨_, rfl⟩ | ⟨m, own, p, h0, _⟩⟩
                    · have HK8 := Lib.hid ((HK7.out.trans k8).alloc (.cells zSig 26))
                      have y0 := (HK7.out.trans k8).cell HMM.out.1
                      have y1 := HK8.out.cell HMM.out.2
                      rw [f3] at y1
                      clear k8 HMT
                      go_wp2_with fail
                      go_roundw
                      case rel => exact ⟨j + 1, by omega, by go_num, HK8.out⟩
                      case measure => simp [intOf]; omega
                    · rw [HF2.out] at h0; cases h0
                  · rw [f1] at HF
                    simp only [Option.getD_none, Option.isSome_none] at HF
                    have HF2 := Lib.hid f2
                    have HOW := Lib.hid (beq_no f4)
                    clear f1 f2 f4
                    go_wp2_with fail
                    refine HF.out.mono ?_
                    rintro e w7 ⟨rfl, k7⟩
                    have HK7 := Lib.hid (HK6.out.trans k7)
                    clear k7 HF y0
                    have y0 := HK7.out.cell HMM.out.1
                    have HMT := Lib.hid (method_c (some ⟨b, o, none⟩) cp t nm y.1 w7 (tab_kept HT5.out HK7.out) (small_of_short HSH.out))
                    go_wp2_with fail
                    refine HMT.out.mono ?_
                    rintro e w8 ⟨k8, ⟨h0, _⟩ | ⟨m', own', p, h0, rfl, hr⟩⟩
                    · rw [HF2.out] at h0; cases h0
                    · rw [HF2.out] at h0
                      injection h0 with h0
                      injection h0 with e1 e2
                      subst e1 e2
                      obtain ⟨pa, pc, rfl⟩ := owns_slice_n hr
                      have HK8 := Lib.hid ((HK7.out.trans k8).alloc (.cells #[.string m.name, .slice pa m.params.length pc, .string m.res] 26))
                      have y0 := (HK7.out.trans k8).cell HMM.out.1
                      have y1 := HK8.out.cell HMM.out.2
                      rw [← f3] at y1
                      have hm1 : ((m.params.length : Int) == -1) = false := by simp <;> omega
                      have hem : (⟨#[]⟩ : ByteArray).toList = [] := by rw [ByteArray.toList_eq]
                      have how := HOW.out
                      rw [hem] at how
                      clear k8 HMT hr
                      go_wp2_with fail
                      go_roundw
                      case rel => exact ⟨j + 1, by omega, by go_num, HK8.out⟩
                      case measure => simp [intOf]; omega
            · have hltI : ¬ (j : Int) < (l.length : Int) := by omega
              have HKO := Lib.hid hkp
              clear hkp
              have HFS := Lib.hid (fields_c (some ⟨b, o, none⟩) cp t nm wr (tab_kept HT5.out HKO.out) (small_of_short HSH.out))
              go_wp2_with fail
              refine HFS.out.mono ?_
              rintro e w6 ⟨v6, rfl, hr6, k6⟩
              obtain ⟨fa, fc, rfl⟩ := owns_slice_n hr6
              have HK6 := Lib.hid (HKO.out.trans k6)
              clear hr6 k6 HFS
              have HMS := Lib.hid (methods_c (some ⟨b, o, none⟩) cp t nm w6 (tab_kept HT5.out HK6.out) (small_of_short HSH.out))
              go_wp2_with fail
              refine HMS.out.mono ?_
              rintro e w7 ⟨ms, v7, rfl, hms, hr7, _, hml, k7⟩
              obtain ⟨ga, gc, rfl⟩ := owns_slice_n hr7
              have HK7 := Lib.hid (HK6.out.trans k7)
              have hmn : ms.length = (Tab.methods t nm).length := by rw [← hms]; simp
              have hll := HLE.out
              have hsum : ((Tab.fields t nm).length : Int) + (ms.length : Int) = (l.length : Int) := by omega
              have hfit : (0 : Int) ≤ (Tab.fields t nm).length ∧ ((Tab.fields t nm).length : Int) ≤ (l.length : Int) := by omega
              clear hr7 k7 HMS
              go_wp2_with fail
              go_ret
              exact ⟨rfl, HK5.out.trans HK7.out⟩
        · go_wp2_with fail
          go_ret
          exact ⟨rfl, HK3.out⟩
      · go_wp2_with fail
        go_ret
        exact ⟨rfl, HK3.out⟩

end Go.Proofs.YtghmgidnlopmaaaDoor
