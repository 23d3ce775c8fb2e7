/- The law SitesMay: its walk over any table and any sites. -/
import Derived.Test.YthooiofaicdhgaaGreatDoorSsx
set_option linter.unusedSimpArgs false
set_option linter.unusedVariables false
set_option maxRecDepth 100000
namespace Go.Proofs.YthooiofaicdhgaaGreatDoor
open Go.ChangeShapes Go.WideShapes Go.ChangeAt Go.RowKit

theorem may_up {t : List Tab.C} {l : List Tab.St} {k : Nat} {x : Tab.St} (h : l[k]? = some x) : mayV t l (1 + (k : Int)) = .tuple #[.bool (if Tab.kindS x = 1 then !Tab.precise t x.a x.b else true), .int .i64 0] := by
  have hp : (0 : Int) < 1 + (k : Int) := by omega
  have hs : Tab.siteAt l (1 + (k : Int)) = some x := Tab.siteAt_up hp (by rw [show (1 + (k : Int) - 1).toNat = k by omega]; exact h)
  unfold mayV
  rw [hs]
  simp only
  unfold Tab.mayS Tab.blamed Tab.other
  rw [if_pos hp, if_pos hp, decide_eq_true hp]
theorem may_down {t : List Tab.C} {l : List Tab.St} {k : Nat} {x : Tab.St} (h : l[k]? = some x) : mayV t l (-(1 + (k : Int))) = .tuple #[.bool (if Tab.kindS x = 1 then !Tab.precise t x.b x.a else false), .int .i64 0] := by
  have hp : ¬ (0 : Int) < -(1 + (k : Int)) := by omega
  have hs : Tab.siteAt l (-(1 + (k : Int))) = some x := Tab.siteAt_down (by omega) (by rw [show (- -(1 + (k : Int)) - 1).toNat = k by omega]; exact h)
  unfold mayV
  rw [hs]
  simp only
  unfold Tab.mayS Tab.blamed Tab.other
  rw [if_neg hp, if_neg hp, decide_eq_false hp]
theorem sites_zero {t : List Tab.C} {l : List Tab.St} (h : (Tab.sitesV t l).1 = 0) : (Tab.sitesV t l).2 = 0 ∧ ∀ x ∈ l, Tab.chkSite t x = 0 := by
  unfold Tab.sitesV at h ⊢
  by_cases h5 : 5000 < l.length
  · rw [if_pos h5] at h; exact absurd h (by decide)
  · rw [if_neg h5] at h ⊢
    exact ⟨by rw [Tab.chk_zero h], Tab.chk_iff.1 h⟩
/-- A site that may be. -/
theorem chk_kind {t : List Tab.C} {x : Tab.St} (h : Tab.chkSite t x = 0) : Tab.kindS x = x.what ∧ (x.what = 1 → Tab.isCast t x.a x.b = true) := by
  unfold Tab.chkSite at h
  by_cases h0 : Tab.kindS x = 0
  · rw [if_pos h0] at h; exact absurd h (by decide)
  · rw [if_neg h0] at h
    have hk : Tab.kindS x = x.what := by
      unfold Tab.kindS at h0 ⊢
      split
      · rfl
      · rename_i hn; rw [if_neg hn] at h0; exact absurd rfl h0
    refine ⟨hk, fun h1 => ?_⟩
    rw [if_pos (hk.trans h1)] at h
    cases hc : Tab.isCast t x.a x.b with
    | true => rfl
    | false => rw [hc] at h; exact absurd h (by decide)

set_option maxHeartbeats 32000000 in
theorem may_law_c (t : List Tab.C) (a : Option Addr) (cp : Nat) (l : List Tab.St) (sa : Option Addr) (sc : Nat) (x1 : Int) (w : World) (hTb : Tb w) (hKw : Kw w) (h : TabAt w (.slice a t.length cp) t) (hs : SitesAt w (.slice sa l.length sc) l) (p1 : -9223372036854775808 ≤ x1) (q1 : x1 ≤ 9223372036854775807) :
    Calls Tryz.prog 12 #[.slice a t.length cp, .slice sa l.length sc, .int .i64 x1] w fun e w' => e = .returned (.bool true) ∧ Kept w w' := by
  have HTB := Lib.hid hTb
  have HT := Lib.hid h
  have HSI := Lib.hid hs
  clear hTb h
  go_enter Tryz.func12, Tryz.ntmps12
  go_wp2_with fail
  refine (known9_c w HTB.out hKw).mono ?_
  rintro e w1 ⟨rfl, k1⟩
  have HK1 := Lib.hid k1
  have HL := Lib.hid (long_c t (.slice a t.length cp) w1 (tab_kept HT.out k1))
  clear k1 hKw
  go_wp2_with fail
  refine HL.out.mono ?_
  rintro e w2 ⟨⟨lb, rfl, hsh⟩, k2⟩
  have HK2 := Lib.hid (HK1.out.trans k2)
  clear k2 HL
  cases lb with
  | true =>
    clear hsh
    go_wp2_with fail
    go_ret
    exact ⟨rfl, HK2.out⟩
  | false =>
    have HSM := Lib.hid (short_small (hsh rfl))
    have HLS := Lib.hid (longS_c l _ w2 (sites_kept HSI.out HK2.out))
    clear hsh
    go_wp2_with fail
    refine HLS.out.mono ?_
    rintro e w2' ⟨⟨sb, rfl, hsh⟩, rfl⟩
    cases sb with
    | true =>
      clear hsh HLS
      go_wp2_with fail
      go_ret
      exact ⟨rfl, HK2.out⟩
    | false =>
      obtain ⟨hl12, hshort⟩ := hsh rfl
      have HSHO := Lib.hid hshort
      clear hsh HLS hshort
      by_cases hl0 : l.length = 0
      · have hl0I : (l.length : Int) = 0 := by omega
        go_wp2_with fail
        go_ret
        exact ⟨rfl, HK2.out⟩
      · have hl0I : ((l.length : Int) == 0) = false := by simpa using hl0
        have HC := Lib.hid (checkS_c t a cp l sa sc w2' (HTB.out.kept HK2.out) (tab_kept HT.out HK2.out) HSM.out (sites_kept HSI.out HK2.out))
        have HCO := Lib.hid (fun h => sites_zero (t := t) (l := l) h)
        generalize (Tab.sitesV t l).1 = c1 at HC HCO
        generalize (Tab.sitesV t l).2 = c2 at HC HCO
        go_wp2_with fail
        refine HC.out.mono ?_
        rintro e w3 ⟨rfl, k3⟩
        have HK3 := Lib.hid (HK2.out.trans k3)
        clear k3 HC
        by_cases hc1 : c1 = 0
        · have HOK := Lib.hid (HCO.out hc1).2
          obtain rfl : c2 = 0 := (HCO.out hc1).1
          subst hc1
          have HP := Lib.hid (pick_c x1 l.length w3 (by omega) (by omega) p1 q1)
          have h0l : 0 < l.length := by omega
          clear hl0 HCO
          go_wp2_with fail
          refine HP.out.mono ?_
          rintro e w4 ⟨⟨k, hk, rfl⟩, rfl⟩
          have hkI : (k : Int) < (l.length : Int) := by omega
          have hx : l[k]? = some l[k] := List.getElem?_eq_getElem hk
          obtain ⟨_, _, e0, g1, g2, g3⟩ := hs
          injection e0 with e1 _ e3
          subst e1 e3
          unfold maxLen at g2
          obtain ⟨b, o, rfl, hst⟩ := g3 k _ hx
          generalize l[k] = x at hx hst
          have HZX := Lib.hid hst.2.2.2
          obtain ⟨d0, d1, d2, _⟩ := hst.kept HK3.out
          have HX := Lib.hid hx
          have HUP := Lib.hid (may_up (t := t) hx)
          have HDN := Lib.hid (may_down (t := t) hx)
          have HKD := Lib.hid (chk_kind (HOK.out x (List.mem_of_getElem? hx)))
          have hk12 : k < 12 := by omega
          have HMU := Lib.hid (fun W (kk : Kept w W) => mayS_c t a cp l (some ⟨b, o, none⟩) sc (1 + (k : Int)) W (HTB.out.kept kk) (tab_kept HT.out kk) HSM.out (sites_kept HSI.out kk) (by omega) (by omega))
          have HMD := Lib.hid (fun W (kk : Kept w W) => mayS_c t a cp l (some ⟨b, o, none⟩) sc (-(1 + (k : Int))) W (HTB.out.kept kk) (tab_kept HT.out kk) HSM.out (sites_kept HSI.out kk) (by omega) (by omega))
          rw [HUP.out] at HMU
          rw [HDN.out] at HMD
          have HPC := Lib.hid (fun W (kk : Kept w W) => precise_cc t a cp x.a x.b W (HTB.out.kept kk) (tab_kept HT.out kk) HSM.out HZX.out.1 HZX.out.2)
          have HPD := Lib.hid (fun W (kk : Kept w W) => precise_cc t a cp x.b x.a W (HTB.out.kept kk) (tab_kept HT.out kk) HSM.out HZX.out.2 HZX.out.1)
          have HKA := Lib.hid (HK3.out.alloc (.cells #[.int .i64 x.what, .string x.a, .string x.b] 80))
          have B9 := Lib.hid (Blk.new w4 80 #[.int .i64 x.what, .string x.a, .string x.b])
          rw [HKD.out.1] at HMU HMD
          obtain ⟨pr1, hp1⟩ : ∃ v, Tab.precise t x.a x.b = v := ⟨_, rfl⟩
          obtain ⟨pr2, hp2⟩ : ∃ v, Tab.precise t x.b x.a = v := ⟨_, rfl⟩
          have HFR := Lib.hid (fun (hw : x.what = 1) (e : x.a = Tab.dynB) => show pr1 = false ∧ pr2 = true by
            have := Tab.cast_from (t := t) (b := x.b) (by rw [← e]; exact HKD.out.2 hw)
            rw [← hp1, ← hp2, e]; exact this)
          have HTO := Lib.hid (fun (hw : x.what = 1) (e : x.b = Tab.dynB) => show pr1 = true ∧ pr2 = false by
            have := Tab.cast_to (t := t) (a := x.a) (by rw [← e]; exact HKD.out.2 hw)
            rw [← hp1, ← hp2, e]; exact this)
          rw [hp1] at HMU HPC
          rw [hp2] at HMD HPD
          clear hx hst g3 hp1 hp2 HP
          by_cases hw : x.what = 1
          · rw [if_pos hw] at HMU HMD
            have HW := Lib.hid hw
            have hwb : (x.what == 1) = true := by simpa using hw
            clear hw
            cases pr1 with
            | false =>
              cases pr2 with
              | false =>
                have qa := q63_no (fun e => absurd (HFR.out HW.out e) (by decide))
                have qb := q63_no (fun e => absurd (HTO.out HW.out e) (by decide))
                go_wp2_with fail
                refine (HMU.out _ HKA.out).mono ?_
                rintro e w5 ⟨rfl, k5⟩
                have HK5 := Lib.hid (HKA.out.trans k5)
                have b95 := B9.out.kept k5
                have B95 := Lib.hid b95
                clear k5 b95
                go_wp2_with fail
                refine (HMD.out _ HK5.out).mono ?_
                rintro e w6 ⟨rfl, k6⟩
                have HK6 := Lib.hid (HK5.out.trans k6)
                have b96 := B95.out.kept k6
                have B96 := Lib.hid b96
                have y0 := b96.cell 0
                have y1 := b96.cell 1
                have y2 := b96.cell 2
                simp only [List.getElem?_toArray, List.getElem?_cons_zero, List.getElem?_cons_succ] at y0 y1 y2
                clear k6 b96 d0 d1 d2
                go_wp2_with fail
                refine (HPC.out _ HK6.out).mono ?_
                rintro e w7 ⟨rfl, k7⟩
                have HK7 := Lib.hid (HK6.out.trans k7)
                have b97 := B96.out.kept k7
                have z1 := b97.cell 1
                have z2 := b97.cell 2
                simp only [List.getElem?_toArray, List.getElem?_cons_zero, List.getElem?_cons_succ] at z1 z2
                clear k7 b97 y0 y1 y2
                go_wp2_with fail
                refine (HPD.out _ HK7.out).mono ?_
                rintro e w8 ⟨rfl, k8⟩
                have HK8 := Lib.hid (HK7.out.trans k8)
                clear k8
                go_wp2_with fail
                go_ret
                exact ⟨rfl, HK8.out⟩
              | true =>
                have qb := q63_no (fun e => absurd (HTO.out HW.out e) (by decide))
                by_cases ha : x.a = Tab.dynB
                · have qa := q63_yes ha
                  clear ha
                  go_wp2_with fail
                  refine (HMU.out _ HKA.out).mono ?_
                  rintro e w5 ⟨rfl, k5⟩
                  have HK5 := Lib.hid (HKA.out.trans k5)
                  have b95 := B9.out.kept k5
                  have B95 := Lib.hid b95
                  clear k5 b95
                  go_wp2_with fail
                  refine (HMD.out _ HK5.out).mono ?_
                  rintro e w6 ⟨rfl, k6⟩
                  have HK6 := Lib.hid (HK5.out.trans k6)
                  have b96 := B95.out.kept k6
                  have B96 := Lib.hid b96
                  have y0 := b96.cell 0
                  have y1 := b96.cell 1
                  have y2 := b96.cell 2
                  simp only [List.getElem?_toArray, List.getElem?_cons_zero, List.getElem?_cons_succ] at y0 y1 y2
                  clear k6 b96 d0 d1 d2
                  go_wp2_with fail
                  refine (HPC.out _ HK6.out).mono ?_
                  rintro e w7 ⟨rfl, k7⟩
                  have HK7 := Lib.hid (HK6.out.trans k7)
                  have b97 := B96.out.kept k7
                  have z1 := b97.cell 1
                  have z2 := b97.cell 2
                  simp only [List.getElem?_toArray, List.getElem?_cons_zero, List.getElem?_cons_succ] at z1 z2
                  clear k7 b97 y0 y1 y2
                  go_wp2_with fail
                  refine (HPD.out _ HK7.out).mono ?_
                  rintro e w8 ⟨rfl, k8⟩
                  have HK8 := Lib.hid (HK7.out.trans k8)
                  clear k8
                  go_wp2_with fail
                  go_ret
                  exact ⟨rfl, HK8.out⟩
                · have qa := q63_no ha
                  clear ha
                  go_wp2_with fail
                  refine (HMU.out _ HKA.out).mono ?_
                  rintro e w5 ⟨rfl, k5⟩
                  have HK5 := Lib.hid (HKA.out.trans k5)
                  have b95 := B9.out.kept k5
                  have B95 := Lib.hid b95
                  clear k5 b95
                  go_wp2_with fail
                  refine (HMD.out _ HK5.out).mono ?_
                  rintro e w6 ⟨rfl, k6⟩
                  have HK6 := Lib.hid (HK5.out.trans k6)
                  have b96 := B95.out.kept k6
                  have B96 := Lib.hid b96
                  have y0 := b96.cell 0
                  have y1 := b96.cell 1
                  have y2 := b96.cell 2
                  simp only [List.getElem?_toArray, List.getElem?_cons_zero, List.getElem?_cons_succ] at y0 y1 y2
                  clear k6 b96 d0 d1 d2
                  go_wp2_with fail
                  refine (HPC.out _ HK6.out).mono ?_
                  rintro e w7 ⟨rfl, k7⟩
                  have HK7 := Lib.hid (HK6.out.trans k7)
                  have b97 := B96.out.kept k7
                  have z1 := b97.cell 1
                  have z2 := b97.cell 2
                  simp only [List.getElem?_toArray, List.getElem?_cons_zero, List.getElem?_cons_succ] at z1 z2
                  clear k7 b97 y0 y1 y2
                  go_wp2_with fail
                  refine (HPD.out _ HK7.out).mono ?_
                  rintro e w8 ⟨rfl, k8⟩
                  have HK8 := Lib.hid (HK7.out.trans k8)
                  clear k8
                  go_wp2_with fail
                  go_ret
                  exact ⟨rfl, HK8.out⟩
            | true =>
              cases pr2 with
              | false =>
                have qa := q63_no (fun e => absurd (HFR.out HW.out e) (by decide))
                by_cases hb : x.b = Tab.dynB
                · have qb := q63_yes hb
                  clear hb
                  go_wp2_with fail
                  refine (HMU.out _ HKA.out).mono ?_
                  rintro e w5 ⟨rfl, k5⟩
                  have HK5 := Lib.hid (HKA.out.trans k5)
                  have b95 := B9.out.kept k5
                  have B95 := Lib.hid b95
                  clear k5 b95
                  go_wp2_with fail
                  refine (HMD.out _ HK5.out).mono ?_
                  rintro e w6 ⟨rfl, k6⟩
                  have HK6 := Lib.hid (HK5.out.trans k6)
                  have b96 := B95.out.kept k6
                  have B96 := Lib.hid b96
                  have y0 := b96.cell 0
                  have y1 := b96.cell 1
                  have y2 := b96.cell 2
                  simp only [List.getElem?_toArray, List.getElem?_cons_zero, List.getElem?_cons_succ] at y0 y1 y2
                  clear k6 b96 d0 d1 d2
                  go_wp2_with fail
                  refine (HPC.out _ HK6.out).mono ?_
                  rintro e w7 ⟨rfl, k7⟩
                  have HK7 := Lib.hid (HK6.out.trans k7)
                  have b97 := B96.out.kept k7
                  have z1 := b97.cell 1
                  have z2 := b97.cell 2
                  simp only [List.getElem?_toArray, List.getElem?_cons_zero, List.getElem?_cons_succ] at z1 z2
                  clear k7 b97 y0 y1 y2
                  go_wp2_with fail
                  refine (HPD.out _ HK7.out).mono ?_
                  rintro e w8 ⟨rfl, k8⟩
                  have HK8 := Lib.hid (HK7.out.trans k8)
                  clear k8
                  go_wp2_with fail
                  go_ret
                  exact ⟨rfl, HK8.out⟩
                · have qb := q63_no hb
                  clear hb
                  go_wp2_with fail
                  refine (HMU.out _ HKA.out).mono ?_
                  rintro e w5 ⟨rfl, k5⟩
                  have HK5 := Lib.hid (HKA.out.trans k5)
                  have b95 := B9.out.kept k5
                  have B95 := Lib.hid b95
                  clear k5 b95
                  go_wp2_with fail
                  refine (HMD.out _ HK5.out).mono ?_
                  rintro e w6 ⟨rfl, k6⟩
                  have HK6 := Lib.hid (HK5.out.trans k6)
                  have b96 := B95.out.kept k6
                  have B96 := Lib.hid b96
                  have y0 := b96.cell 0
                  have y1 := b96.cell 1
                  have y2 := b96.cell 2
                  simp only [List.getElem?_toArray, List.getElem?_cons_zero, List.getElem?_cons_succ] at y0 y1 y2
                  clear k6 b96 d0 d1 d2
                  go_wp2_with fail
                  refine (HPC.out _ HK6.out).mono ?_
                  rintro e w7 ⟨rfl, k7⟩
                  have HK7 := Lib.hid (HK6.out.trans k7)
                  have b97 := B96.out.kept k7
                  have z1 := b97.cell 1
                  have z2 := b97.cell 2
                  simp only [List.getElem?_toArray, List.getElem?_cons_zero, List.getElem?_cons_succ] at z1 z2
                  clear k7 b97 y0 y1 y2
                  go_wp2_with fail
                  refine (HPD.out _ HK7.out).mono ?_
                  rintro e w8 ⟨rfl, k8⟩
                  have HK8 := Lib.hid (HK7.out.trans k8)
                  clear k8
                  go_wp2_with fail
                  go_ret
                  exact ⟨rfl, HK8.out⟩
              | true =>
                have qa := q63_no (fun e => absurd (HFR.out HW.out e) (by decide))
                have qb := q63_no (fun e => absurd (HTO.out HW.out e) (by decide))
                go_wp2_with fail
                refine (HMU.out _ HKA.out).mono ?_
                rintro e w5 ⟨rfl, k5⟩
                have HK5 := Lib.hid (HKA.out.trans k5)
                have b95 := B9.out.kept k5
                have B95 := Lib.hid b95
                clear k5 b95
                go_wp2_with fail
                refine (HMD.out _ HK5.out).mono ?_
                rintro e w6 ⟨rfl, k6⟩
                have HK6 := Lib.hid (HK5.out.trans k6)
                have b96 := B95.out.kept k6
                have B96 := Lib.hid b96
                have y0 := b96.cell 0
                have y1 := b96.cell 1
                have y2 := b96.cell 2
                simp only [List.getElem?_toArray, List.getElem?_cons_zero, List.getElem?_cons_succ] at y0 y1 y2
                clear k6 b96 d0 d1 d2
                go_wp2_with fail
                refine (HPC.out _ HK6.out).mono ?_
                rintro e w7 ⟨rfl, k7⟩
                have HK7 := Lib.hid (HK6.out.trans k7)
                have b97 := B96.out.kept k7
                have z1 := b97.cell 1
                have z2 := b97.cell 2
                simp only [List.getElem?_toArray, List.getElem?_cons_zero, List.getElem?_cons_succ] at z1 z2
                clear k7 b97 y0 y1 y2
                go_wp2_with fail
                refine (HPD.out _ HK7.out).mono ?_
                rintro e w8 ⟨rfl, k8⟩
                have HK8 := Lib.hid (HK7.out.trans k8)
                clear k8
                go_wp2_with fail
                go_ret
                exact ⟨rfl, HK8.out⟩
          · rw [if_neg hw] at HMU HMD
            have hwb : (x.what == 1) = false := by simpa using hw
            go_wp2_with fail
            refine (HMU.out _ HKA.out).mono ?_
            rintro e w5 ⟨rfl, k5⟩
            have HK5 := Lib.hid (HKA.out.trans k5)
            have b95 := B9.out.kept k5
            have B95 := Lib.hid b95
            clear k5 b95
            go_wp2_with fail
            refine (HMD.out _ HK5.out).mono ?_
            rintro e w6 ⟨rfl, k6⟩
            have HK6 := Lib.hid (HK5.out.trans k6)
            have b96 := B95.out.kept k6
            have B96 := Lib.hid b96
            have y0 := b96.cell 0
            have y1 := b96.cell 1
            have y2 := b96.cell 2
            simp only [List.getElem?_toArray, List.getElem?_cons_zero, List.getElem?_cons_succ] at y0 y1 y2
            clear k6 b96 d0 d1 d2
            go_wp2_with fail
            go_ret
            exact ⟨rfl, HK6.out⟩
        · have hc1b : (c1 == 0) = false := by simpa using hc1
          go_wp2_with fail
          go_ret
          exact ⟨rfl, HK3.out⟩

end Go.Proofs.YthooiofaicdhgaaGreatDoor
