/- What ConsistGreatest's helpers tell: closed. -/
import Derived.Test.YthooiofaicdhgaaGreatDoorKCgl
set_option linter.unusedSimpArgs false
set_option linter.unusedVariables false
set_option maxRecDepth 100000
namespace Go.Proofs.YthooiofaicdhgaaGreatDoor
open Go.ChangeShapes Go.WideShapes Go.ChangeAt Go.RowKit
theorem zip_atG {A B : List Tab.V} {j : Nat} {x y : Tab.V} (hx : A[j]? = some x) (hy : B[j]? = some y) : (A.zip B)[j]? = some (x, y) := by
 rw [List.getElem?_zip_eq_some]; exact ⟨hx, hy⟩
set_option maxHeartbeats 8000000 in
theorem closed_c (t : List Tab.C) (a : Option Addr) (cp : Nat) (L : List (Nat × Nat)) (la : Option Addr) (lc : Nat) (p1 p2 : Nat) (w : World) (hTb : Tb w) (h : TabAt w (.slice a t.length cp) t) (hS : Small t) (hl : PairsAt w (.slice la L.length lc) L) (hL : Inside t L) (h1 : p1 < t.length) (h2 : p2 < t.length) :
  Calls Tryz.prog 37 #[.slice a t.length cp, .slice la L.length lc, .agg #[.int .i64 p1, .int .i64 p2]] w fun e w' => e = .returned (.bool (Tab.closed t L p1 p2)) ∧ Kept w w' := by
 have HTB := Lib.hid hTb
 have HT := Lib.hid h
 have HS := Lib.hid hS
 have hS' := hS.len
 have HW := Lib.hid (fun s u W (kw : Kept w W) => within_c t a cp L la lc s u W (hTb.kept kw) (tab_kept h kw) hS (pairs_kept hl kw) hL)
 have hcap : t.length ≤ cp := by
  obtain ⟨_, c', e, g1, g2, _⟩ := h
  injection e with _ _ e3
  subst e3
  exact g1
 obtain ⟨b, o, rfl, q1⟩ := Row.cellsC h h1
 obtain ⟨b', o', e, q2⟩ := Row.cellsC h h2
 injection e with e
 injection e with e1 e2
 subst e1 e2
 have d1 := q1.1
 have d2 := q2.1
 obtain ⟨hb, hhb⟩ : ∃ hb, hb = Tab.closed t L p1 p2 := ⟨_, rfl⟩
 rw [← hhb]
 unfold Tab.closed at hhb
 have HHB := Lib.hid hhb
 have j1 : (p1 : Int) < (t.length : Int) := by omega
 have j2 : (p2 : Int) < (t.length : Int) := by omega
 generalize (Tab.nth t p1).name = s at *
 generalize (Tab.nth t p2).name = u at *
 clear hTb h hS hl hL q1 q2 hhb
 have HD1 := Lib.hid d1
 have HD2 := Lib.hid d2
 have HK0 := Lib.hid ((Kept.refl w).alloc (.cells #[.int .i64 p1, .int .i64 p2] 42))
 have b0 := Blk.new w 42 #[.int .i64 p1, .int .i64 p2]
 have b1 := b0.cell 0
 have b2 := b0.cell 1
 simp only [List.getElem?_toArray, List.getElem?_cons_zero, List.getElem?_cons_succ] at b1 b2
 clear d1 d2
 have d1 := HK0.out.cell HD1.out
 have d2 := HK0.out.cell HD2.out
 clear b0
 go_enter Tryz.func37, Tryz.ntmps37
 obtain ⟨W1, hW1⟩ : ∃ W1, w.alloc (.cells #[.int .i64 p1, .int .i64 p2] 42) = W1 := ⟨_, rfl⟩
 rw [hW1] at b1 b2 d1 d2 HK0
 go_wp2_with fail
 try rw [hW1]
 clear hW1
 go_still (by kernel_rfl)
 have HK1 := Lib.hid HK0.out.drew
 clear b1 b2 d1 d2
 have HH := Lib.hid (has_cc t (some ⟨b, o, none⟩) cp s u _ (HTB.out.kept HK1.out) (tab_kept HT.out HK1.out) HS.out)
 go_wp2_with fail
 refine HH.out.mono ?_
 rintro e w1 ⟨rfl, k1⟩
 have HK2 := Lib.hid (HK1.out.trans k1)
 clear k1 HH
 cases x1 : Tab.has t s u with
 | false =>
  have HQ := Lib.hid (show hb = false by rw [HHB.out, x1]; rfl)
  clear x1
  go_wp2_with fail
  go_ret
  exact ⟨by rw [HQ.out]; rfl, HK2.out⟩
 | true =>
  have HQ := Lib.hid (show hb = ((Tab.fields t u).all (Tab.clF t L s) && (Tab.methods t u).all (Tab.clM t L s)) by rw [HHB.out, x1]; simp)
  clear x1 HHB
  have HF := Lib.hid (fields_c (some ⟨b, o, none⟩) cp t u w1 (tab_kept HT.out HK2.out) HS.out)
  go_wp2_with fail
  refine HF.out.mono ?_
  rintro e w2 ⟨v2, rfl, hr2, k2⟩
  have HK3 := Lib.hid (HK2.out.trans k2)
  obtain ⟨fa, fc, rfl⟩ := owns_slice_n hr2
  have HR2 := Lib.hid hr2
  clear k2 hr2 HF
  have HM := Lib.hid (methods_c (some ⟨b, o, none⟩) cp t u w2 (tab_kept HT.out HK3.out) HS.out)
  go_wp2_with fail
  refine HM.out.mono ?_
  rintro e w3 ⟨ms, v3, rfl, hms, hr3, hrs, hml, k3⟩
  have HK4 := Lib.hid (HK3.out.trans k3)
  obtain ⟨ma, mc, rfl⟩ := owns_slice_n hr3
  have HR3 := Lib.hid hr3
  have HRS := Lib.hid hrs
  have HMS := Lib.hid hms
  have HR4 := Lib.hid (owns_only (S := fun _ => False) HR2.out (Only.of_kept k3) (fun _ _ h => h))
  clear hr3 hrs hms k3 HM
  have HFL := Lib.hid (row_len HR4.out)
  obtain ⟨F, hF⟩ : ∃ F, Tab.fields t u = F := ⟨_, rfl⟩
  rw [hF] at HR4 HQ HFL
  rw [hF]
  clear hF HR2
  have hfl := HFL.out
  go_wp2_with fail
  go_loopw [11] (fun q wr => ∃ j : Nat, j ≤ F.length ∧ q = .int .i64 j ∧ Kept w3 wr ∧ (F.take j).all (Tab.clF t L s) = true) (fun q wr => F.length - (intOf q).toNat)
  case atStart => exact ⟨0, Nat.zero_le _, rfl, Kept.refl _, by rfl⟩
  case round =>
   obtain ⟨j, hj, rfl, hkp, hal⟩ := hrel
   have HAL := Lib.hid hal
   have HKP := Lib.hid hkp
   have HKW := Lib.hid (HK4.out.trans hkp)
   clear hkp hal
   by_cases hlt : j < F.length
   ·have hltI : (j : Int) < (F.length : Int) := by omega
    have hx : F[j]? = some F[j] := List.getElem?_eq_getElem hlt
    have HX := Lib.hid hx
    obtain ⟨g, rfl, _⟩ := row_cells HR4.out (by omega)
    obtain ⟨c0, c1⟩ := var_cells HR4.out hx
    have C0 := Lib.hid c0
    have C1 := Lib.hid c1
    clear c0 c1
    have c0 := HKP.out.cell C0.out
    have c1 := HKP.out.cell C1.out
    generalize F[j] = f at *
    have HFI := Lib.hid (field_c (some ⟨b, o, none⟩) cp t s f.name wr (tab_kept HT.out HKW.out) (by omega))
    have HCF := Lib.hid (show Tab.clF t L s f = (Tab.within t L ((Tab.field t s f.name).getD ⟨#[]⟩) f.typ && Tab.within t L f.typ ((Tab.field t s f.name).getD ⟨#[]⟩)) from rfl)
    generalize (Tab.field t s f.name).getD ⟨#[]⟩ = mine at HFI HCF
    clear hx
    go_wp2_with fail
    refine HFI.out.mono ?_
    rintro e w5 ⟨rfl, k5⟩
    have HK5 := Lib.hid (HKP.out.trans k5)
    have HW5 := Lib.hid (HKW.out.trans k5)
    clear k5 HFI c0 c1
    have c1 := HK5.out.cell C1.out
    have HA := Lib.hid (HW.out mine f.typ w5 HW5.out)
    go_wp2_with fail
    refine HA.out.mono ?_
    rintro e w6 ⟨rfl, k6⟩
    have HK6 := Lib.hid (HK5.out.trans k6)
    have HW6 := Lib.hid (HW5.out.trans k6)
    clear k6 HA c1
    have c1 := HK6.out.cell C1.out
    cases y1 : Tab.within t L mine f.typ with
    | false =>
     have HR := Lib.hid (show hb = false by rw [HQ.out, Tab.all_no HX.out (by rw [HCF.out, y1]; rfl)]; rfl)
     clear y1
     go_wp2_with fail
     go_ret
     exact ⟨by rw [HR.out]; rfl, HW6.out⟩
    | true =>
     have HB := Lib.hid (HW.out f.typ mine w6 HW6.out)
     rw [y1] at HCF
     clear y1
     go_wp2_with fail
     refine HB.out.mono ?_
     rintro e w7 ⟨rfl, k7⟩
     have HK7 := Lib.hid (HK6.out.trans k7)
     have HW7 := Lib.hid (HW6.out.trans k7)
     clear k7 HB c1
     cases y2 : Tab.within t L f.typ mine with
     | false =>
      have HR := Lib.hid (show hb = false by rw [HQ.out, Tab.all_no HX.out (by rw [HCF.out, y2]; rfl)]; rfl)
      clear y2
      go_wp2_with fail
      go_ret
      exact ⟨by rw [HR.out]; rfl, HW7.out⟩
     | true =>
      have HN := Lib.hid (Tab.all_next HAL.out HX.out (by rw [HCF.out, y2]; rfl))
      clear y2
      go_wp2_with fail
      go_roundw
      case rel => exact ⟨j + 1, by omega, by go_num, HK7.out, HN.out⟩
      case measure => simp [intOf]; omega
   ·have hltI : ¬ (j : Int) < (F.length : Int) := by omega
    obtain rfl : j = F.length := by omega
    have HQ2 := Lib.hid (show hb = (Tab.methods t u).all (Tab.clM t L s) by rw [HQ.out, Tab.all_yes HAL.out]; rfl)
    clear HQ HAL
    have hml' := hml
    clear hltI hlt hj HFL hfl HR4
    go_wp2_with fail
    go_loopw [14] (fun q wr => ∃ j : Nat, j ≤ ms.length ∧ q = .int .i64 j ∧ Kept w3 wr ∧ ((ms.map Prod.fst).take j).all (Tab.clM t L s) = true) (fun q wr => ms.length - (intOf q).toNat)
    case atStart => exact ⟨0, Nat.zero_le _, rfl, HKP.out, by rfl⟩
    case round =>
     obtain ⟨j, hj, rfl, hkp, hal⟩ := hrel
     have HAL := Lib.hid hal
     have HKQ := Lib.hid hkp
     have HKV := Lib.hid (HK4.out.trans hkp)
     clear hkp hal HKP HKW
     obtain ⟨wo, rfl⟩ : ∃ wo, wo = wr := ⟨_, rfl⟩
     by_cases hlt : j < ms.length
     ·have hltI : (j : Int) < (ms.length : Int) := by omega
      have hx : ms[j]? = some ms[j] := List.getElem?_eq_getElem hlt
      have hxm : ms[j] ∈ ms := List.getElem_mem hlt
      generalize ms[j] = x at hx hxm
      obtain ⟨m, mv⟩ := x
      have HX := Lib.hid (show (ms.map Prod.fst)[j]? = some m by rw [List.getElem?_map, hx]; rfl)
      obtain ⟨g, rfl, _⟩ := row_cells HR3.out (by omega)
      obtain ⟨c0, c1, c2⟩ := sig_cells HR3.out hx
      dsimp only at c0 c1 c2
      have hpr := HRS.out _ hxm
      dsimp only at hpr
      obtain ⟨pa, pc, rfl⟩ := owns_slice_n hpr
      have HPM := Lib.hid (prm_of hpr)
      have hmp := row_len hpr
      have C1 := Lib.hid c1
      have C2 := Lib.hid c2
      have c0' := HKQ.out.cell c0
      clear hx hxm hpr c0 c1 c2
      have HME := Lib.hid ((method_c (some ⟨b, o, none⟩) cp t s m.name wo (tab_kept HT.out HKV.out) HS.out).mono fun _ _ => meth_any)
      have HCM := Lib.hid (show Tab.clM t L s m = (Tab.within t L (Tab.mth t s m.name).res m.res && decide ((Tab.mth t s m.name).params.length = m.params.length) && (List.zip (Tab.mth t s m.name).params m.params).all (Tab.clP t L)) from rfl)
      generalize Tab.mth t s m.name = y at HME HCM
      go_wp2_with fail
      refine HME.out.mono ?_
      rintro e w5 ⟨nm, own, bb, qa, qc, rfl, hpm, hql, k5⟩
      have HQM := Lib.hid (hpm.kept ((Kept.refl w5).alloc (.cells #[.string nm, .slice qa y.params.length qc, .string y.res] 53)))
      have HK5 := Lib.hid ((HKQ.out.trans k5).alloc (.cells #[.string nm, .slice qa y.params.length qc, .string y.res] 53))
      have hbl := Blk.new w5 53 #[.string nm, .slice qa y.params.length qc, .string y.res]
      have e1 := hbl.cell 1
      have e2 := hbl.cell 2
      simp only [List.getElem?_toArray, List.getElem?_cons_zero, List.getElem?_cons_succ] at e1 e2
      clear hbl k5 HME hpm c0'
      obtain ⟨X, hX⟩ : ∃ X, w5.alloc (.cells #[.string nm, .slice qa y.params.length qc, .string y.res] 53) = X := ⟨_, rfl⟩
      rw [hX] at e1 e2 HK5 HQM
      have c1 := HK5.out.cell C1.out
      have c2 := HK5.out.cell C2.out
      have hkx := HK4.out.trans HK5.out
      go_wp2_with fail
      try rw [hX]
      clear hX
      have HWA := Lib.hid (fun W (kw : Kept X W) => HW.out y.res m.res W (hkx.trans kw))
      cases y1 : Tab.within t L y.res m.res with
      | false =>
       rw [y1] at HCM HWA
       have HR := Lib.hid (show hb = false by rw [HQ2.out, ← HMS.out, Tab.all_no HX.out (by rw [HCM.out]; rfl)])
       clear y1 HCM HX HAL
       refine wp_region_held_drew (S := (fun W => W.cell? ⟨w5.heap.size, 1, none⟩ = some (.slice qa y.params.length qc) ∧ W.cell? ⟨w5.heap.size, 2, none⟩ = some (.string y.res) ∧ W.cell? ⟨g, j * 3 + 1, none⟩ = some (.slice pa m.params.length pc) ∧ W.cell? ⟨g, j * 3 + 2, none⟩ = some (.string m.res) ∧ Kept X W)) (by kernel_rfl) ⟨(Kept.refl X).drew.cell e1, (Kept.refl X).drew.cell e2, (Kept.refl X).drew.cell c1, (Kept.refl X).drew.cell c2, (Kept.refl X).drew⟩ (fun hHeld0 => ?_)
       refine wpAnyH_take (i := 0) (v := ?_) rfl (by kernel_rfl) (by kernel_rfl) (by kernel_rfl) (fun _ _ _ h => h) (Or.inl ⟨by kernel_rfl, ?_⟩) (by assumption) ?_
       rotate_left
       ·intro w hSw; (try dsimp only at hSw); go_simp; (try with_reducible rfl)
       (try simp only [Act.put, List.getElem_toArray, List.getElem_cons_zero, List.getElem_cons_succ, List.setIfInBounds_toArray, List.set_cons_zero, List.set_cons_succ])
       refine wpAnyH_take (i := 1) (v := ?_) rfl (by kernel_rfl) (by kernel_rfl) (by kernel_rfl) (fun _ _ _ h => h) (Or.inl ⟨by kernel_rfl, ?_⟩) (by assumption) ?_
       rotate_left
       ·intro w hSw; (try dsimp only at hSw); go_simp; (try with_reducible rfl)
       (try simp only [Act.put, List.getElem_toArray, List.getElem_cons_zero, List.getElem_cons_succ, List.setIfInBounds_toArray, List.set_cons_zero, List.set_cons_succ])
       refine wpAnyH_take (i := 2) (v := ?_) rfl (by kernel_rfl) (by kernel_rfl) (by kernel_rfl) (fun _ _ _ h => h) (Or.inl ⟨by kernel_rfl, ?_⟩) (by assumption) ?_
       rotate_left
       ·intro w hSw; (try dsimp only at hSw); go_simp; (try with_reducible rfl)
       (try simp only [Act.put, List.getElem_toArray, List.getElem_cons_zero, List.getElem_cons_succ, List.setIfInBounds_toArray, List.set_cons_zero, List.set_cons_succ])
       refine wpAnyH_take (i := 3) (v := ?_) rfl (by kernel_rfl) (by kernel_rfl) (by kernel_rfl) (fun _ _ _ h => h) (Or.inl ⟨by kernel_rfl, ?_⟩) (by assumption) ?_
       rotate_left
       ·intro w hSw; (try dsimp only at hSw); go_simp; (try with_reducible rfl)
       (try simp only [Act.put, List.getElem_toArray, List.getElem_cons_zero, List.getElem_cons_succ, List.setIfInBounds_toArray, List.set_cons_zero, List.set_cons_succ])
       refine wpAnyH_take (i := 4) (v := ?_) rfl (by kernel_rfl) (by kernel_rfl) (by kernel_rfl) (fun _ _ _ h => h) (Or.inl ⟨by kernel_rfl, ?_⟩) (by assumption) ?_
       rotate_left
       ·intro w hSw; (try dsimp only at hSw); go_simp; (try with_reducible rfl)
       (try simp only [Act.put, List.getElem_toArray, List.getElem_cons_zero, List.getElem_cons_succ, List.setIfInBounds_toArray, List.set_cons_zero, List.set_cons_succ])
       refine wpAnyH_take (i := 5) (v := ?_) rfl (by kernel_rfl) (by kernel_rfl) (by kernel_rfl) (fun _ _ _ h => h) (Or.inl ⟨by kernel_rfl, ?_⟩) (by assumption) ?_
       rotate_left
       ·intro w hSw; (try dsimp only at hSw); go_simp; (try with_reducible rfl)
       (try simp only [Act.put, List.getElem_toArray, List.getElem_cons_zero, List.getElem_cons_succ, List.setIfInBounds_toArray, List.set_cons_zero, List.set_cons_succ])
       refine wpAnyH_take (i := 6) (v := ?_) rfl (by kernel_rfl) (by kernel_rfl) (by kernel_rfl) (fun _ _ _ h => h) (Or.inl ⟨by kernel_rfl, ?_⟩) (by assumption) ?_
       rotate_left
       ·intro w hSw; (try dsimp only at hSw); go_simp; (try with_reducible rfl)
       (try simp only [Act.put, List.getElem_toArray, List.getElem_cons_zero, List.getElem_cons_succ, List.setIfInBounds_toArray, List.set_cons_zero, List.set_cons_succ])
       refine wpAnyH_take (i := 7) (v := ?_) rfl (by kernel_rfl) (by kernel_rfl) (by kernel_rfl) (fun _ _ _ h => h) (Or.inl ⟨by kernel_rfl, ?_⟩) (by assumption) ?_
       rotate_left
       ·intro w hSw; (try dsimp only at hSw); go_simp; (try with_reducible rfl)
       (try simp only [Act.put, List.getElem_toArray, List.getElem_cons_zero, List.getElem_cons_succ, List.setIfInBounds_toArray, List.set_cons_zero, List.set_cons_succ])
       refine wpAnyH_take (i := 8) (v := ?_) rfl (by kernel_rfl) (by kernel_rfl) (by kernel_rfl) (fun _ _ _ h => h) (Or.inl ⟨by kernel_rfl, ?_⟩) (by assumption) ?_
       rotate_left
       ·intro w hSw; (try dsimp only at hSw); go_simp; (try with_reducible rfl)
       (try simp only [Act.put, List.getElem_toArray, List.getElem_cons_zero, List.getElem_cons_succ, List.setIfInBounds_toArray, List.set_cons_zero, List.set_cons_succ])
       refine wpAnyH_ready (rs := [9]) (by kernel_rfl) (by simp) ?_
       refine AllReadyH.cons rfl (fun K hK => ?_) AllReadyH.nil
       go_simp
       go_at_call 104
       refine (HWA.out _ (Kept.refl _).drew).mono ?_
       rintro e w6 ⟨rfl, k6⟩
       have k6 := (Kept.refl X).drew.trans k6
       refine hK.out _ _ ⟨k6.cell e1, k6.cell e2, k6.cell c1, k6.cell c2, k6⟩ (fun hHeld1 => ?_)
       clear hK K
       (try simp only [Act.put, List.getElem_toArray, List.getElem_cons_zero, List.getElem_cons_succ, List.setIfInBounds_toArray, List.set_cons_zero, List.set_cons_succ])
       clear hHeld0
       refine wpAnyH_take (i := 10) (v := ?_) rfl (by kernel_rfl) (by kernel_rfl) (by kernel_rfl) (fun _ _ _ h => h) (Or.inl ⟨by kernel_rfl, ?_⟩) (by assumption) ?_
       rotate_left
       ·intro w hSw; (try dsimp only at hSw); go_simp; (try with_reducible rfl)
       (try simp only [Act.put, List.getElem_toArray, List.getElem_cons_zero, List.getElem_cons_succ, List.setIfInBounds_toArray, List.set_cons_zero, List.set_cons_succ])
       refine wpAnyH_take (i := 11) (v := ?_) rfl (by kernel_rfl) (by kernel_rfl) (by kernel_rfl) (fun _ _ _ h => h) (Or.inl ⟨by kernel_rfl, ?_⟩) (by assumption) ?_
       rotate_left
       ·intro w hSw; (try dsimp only at hSw); go_simp; (try with_reducible rfl)
       (try simp only [Act.put, List.getElem_toArray, List.getElem_cons_zero, List.getElem_cons_succ, List.setIfInBounds_toArray, List.set_cons_zero, List.set_cons_succ])
       refine wpAnyH_take (i := 12) (v := undef) rfl (by kernel_rfl) (by kernel_rfl) (by kernel_rfl) (fun _ _ _ h => h) (Or.inr ⟨by kernel_rfl, rfl⟩) (by assumption) ?_
       (try simp only [Act.put, List.getElem_toArray, List.getElem_cons_zero, List.getElem_cons_succ, List.setIfInBounds_toArray, List.set_cons_zero, List.set_cons_succ])
       refine wpAnyH_take (i := 13) (v := undef) rfl (by kernel_rfl) (by kernel_rfl) (by kernel_rfl) (fun _ _ _ h => h) (Or.inr ⟨by kernel_rfl, rfl⟩) (by assumption) ?_
       (try simp only [Act.put, List.getElem_toArray, List.getElem_cons_zero, List.getElem_cons_succ, List.setIfInBounds_toArray, List.set_cons_zero, List.set_cons_succ])
       refine wpAnyH_take (i := 14) (v := undef) rfl (by kernel_rfl) (by kernel_rfl) (by kernel_rfl) (fun _ _ _ h => h) (Or.inr ⟨by kernel_rfl, rfl⟩) (by assumption) ?_
       (try simp only [Act.put, List.getElem_toArray, List.getElem_cons_zero, List.getElem_cons_succ, List.setIfInBounds_toArray, List.set_cons_zero, List.set_cons_succ])
       refine wpAnyH_take (i := 15) (v := undef) rfl (by kernel_rfl) (by kernel_rfl) (by kernel_rfl) (fun _ _ _ h => h) (Or.inr ⟨by kernel_rfl, rfl⟩) (by assumption) ?_
       (try simp only [Act.put, List.getElem_toArray, List.getElem_cons_zero, List.getElem_cons_succ, List.setIfInBounds_toArray, List.set_cons_zero, List.set_cons_succ])
       refine wpAnyH_take (i := 16) (v := undef) rfl (by kernel_rfl) (by kernel_rfl) (by kernel_rfl) (fun _ _ _ h => h) (Or.inr ⟨by kernel_rfl, rfl⟩) (by assumption) ?_
       (try simp only [Act.put, List.getElem_toArray, List.getElem_cons_zero, List.getElem_cons_succ, List.setIfInBounds_toArray, List.set_cons_zero, List.set_cons_succ])
       refine wpAnyH_take (i := 17) (v := undef) rfl (by kernel_rfl) (by kernel_rfl) (by kernel_rfl) (fun _ _ _ h => h) (Or.inr ⟨by kernel_rfl, rfl⟩) (by assumption) ?_
       (try simp only [Act.put, List.getElem_toArray, List.getElem_cons_zero, List.getElem_cons_succ, List.setIfInBounds_toArray, List.set_cons_zero, List.set_cons_succ])
       refine wpAnyH_take (i := 18) (v := undef) rfl (by kernel_rfl) (by kernel_rfl) (by kernel_rfl) (fun _ _ _ h => h) (Or.inr ⟨by kernel_rfl, rfl⟩) (by assumption) ?_
       (try simp only [Act.put, List.getElem_toArray, List.getElem_cons_zero, List.getElem_cons_succ, List.setIfInBounds_toArray, List.set_cons_zero, List.set_cons_succ])
       refine wpAnyH_take (i := 19) (v := undef) rfl (by kernel_rfl) (by kernel_rfl) (by kernel_rfl) (fun _ _ _ h => h) (Or.inr ⟨by kernel_rfl, rfl⟩) (by assumption) ?_
       (try simp only [Act.put, List.getElem_toArray, List.getElem_cons_zero, List.getElem_cons_succ, List.setIfInBounds_toArray, List.set_cons_zero, List.set_cons_succ])
       refine wpAnyH_take (i := 20) (v := undef) rfl (by kernel_rfl) (by kernel_rfl) (by kernel_rfl) (fun _ _ _ h => h) (Or.inr ⟨by kernel_rfl, rfl⟩) (by assumption) ?_
       (try simp only [Act.put, List.getElem_toArray, List.getElem_cons_zero, List.getElem_cons_succ, List.setIfInBounds_toArray, List.set_cons_zero, List.set_cons_succ])
       refine wpAnyH_take (i := 21) (v := undef) rfl (by kernel_rfl) (by kernel_rfl) (by kernel_rfl) (fun _ _ _ h => h) (Or.inr ⟨by kernel_rfl, rfl⟩) (by assumption) ?_
       (try simp only [Act.put, List.getElem_toArray, List.getElem_cons_zero, List.getElem_cons_succ, List.setIfInBounds_toArray, List.set_cons_zero, List.set_cons_succ])
       refine wpAnyH_take (i := 22) (v := ?_) rfl (by kernel_rfl) (by kernel_rfl) (by kernel_rfl) (fun _ _ _ h => h) (Or.inl ⟨by kernel_rfl, ?_⟩) (by assumption) ?_
       rotate_left
       ·intro w hSw; (try dsimp only at hSw); go_simp; (try with_reducible rfl)
       (try simp only [Act.put, List.getElem_toArray, List.getElem_cons_zero, List.getElem_cons_succ, List.setIfInBounds_toArray, List.set_cons_zero, List.set_cons_succ])
       refine wpAnyH_done (by kernel_rfl) ?_ _
       clear hHeld1 e1 e2 c1 c2
       have HW6 := Lib.hid (HK4.out.trans (HK5.out.trans k6))
       go_wp2_with fail
       go_ret
       exact ⟨by rw [HR.out]; first | done | rfl, HW6.out⟩
      | true =>
       rw [y1] at HCM HWA
       obtain ⟨n, hn⟩ : ∃ n, m.params.length = n := ⟨_, rfl⟩
       obtain ⟨yn, hyn⟩ : ∃ n, y.params.length = n := ⟨_, rfl⟩
       by_cases hpl : yn = n
       ·subst hpl
        have HCM2 := Lib.hid (show Tab.clM t L s m = (List.zip y.params m.params).all (Tab.clP t L) by rw [HCM.out, decide_eq_true (hyn.trans hn.symm)]; rfl)
        have HYN := Lib.hid hyn
        have HMN := Lib.hid hn
        rw [hn] at C1 hmp c1
        rw [hyn] at e1 hql
        rw [hyn]
        clear y1 HCM hyn hn
        refine wp_region_held_drew (S := (fun W => W.cell? ⟨w5.heap.size, 1, none⟩ = some (.slice qa yn qc) ∧ W.cell? ⟨w5.heap.size, 2, none⟩ = some (.string y.res) ∧ W.cell? ⟨g, j * 3 + 1, none⟩ = some (.slice pa yn pc) ∧ W.cell? ⟨g, j * 3 + 2, none⟩ = some (.string m.res) ∧ Kept X W)) (by kernel_rfl) ⟨(Kept.refl X).drew.cell e1, (Kept.refl X).drew.cell e2, (Kept.refl X).drew.cell c1, (Kept.refl X).drew.cell c2, (Kept.refl X).drew⟩ (fun hHeld0 => ?_)
        refine wpAnyH_take (i := 0) (v := ?_) rfl (by kernel_rfl) (by kernel_rfl) (by kernel_rfl) (fun _ _ _ h => h) (Or.inl ⟨by kernel_rfl, ?_⟩) (by assumption) ?_
        rotate_left
        ·intro w hSw; (try dsimp only at hSw); go_simp; (try with_reducible rfl)
        (try simp only [Act.put, List.getElem_toArray, List.getElem_cons_zero, List.getElem_cons_succ, List.setIfInBounds_toArray, List.set_cons_zero, List.set_cons_succ])
        refine wpAnyH_take (i := 1) (v := ?_) rfl (by kernel_rfl) (by kernel_rfl) (by kernel_rfl) (fun _ _ _ h => h) (Or.inl ⟨by kernel_rfl, ?_⟩) (by assumption) ?_
        rotate_left
        ·intro w hSw; (try dsimp only at hSw); go_simp; (try with_reducible rfl)
        (try simp only [Act.put, List.getElem_toArray, List.getElem_cons_zero, List.getElem_cons_succ, List.setIfInBounds_toArray, List.set_cons_zero, List.set_cons_succ])
        refine wpAnyH_take (i := 2) (v := ?_) rfl (by kernel_rfl) (by kernel_rfl) (by kernel_rfl) (fun _ _ _ h => h) (Or.inl ⟨by kernel_rfl, ?_⟩) (by assumption) ?_
        rotate_left
        ·intro w hSw; (try dsimp only at hSw); go_simp; (try with_reducible rfl)
        (try simp only [Act.put, List.getElem_toArray, List.getElem_cons_zero, List.getElem_cons_succ, List.setIfInBounds_toArray, List.set_cons_zero, List.set_cons_succ])
        refine wpAnyH_take (i := 3) (v := ?_) rfl (by kernel_rfl) (by kernel_rfl) (by kernel_rfl) (fun _ _ _ h => h) (Or.inl ⟨by kernel_rfl, ?_⟩) (by assumption) ?_
        rotate_left
        ·intro w hSw; (try dsimp only at hSw); go_simp; (try with_reducible rfl)
        (try simp only [Act.put, List.getElem_toArray, List.getElem_cons_zero, List.getElem_cons_succ, List.setIfInBounds_toArray, List.set_cons_zero, List.set_cons_succ])
        refine wpAnyH_take (i := 4) (v := ?_) rfl (by kernel_rfl) (by kernel_rfl) (by kernel_rfl) (fun _ _ _ h => h) (Or.inl ⟨by kernel_rfl, ?_⟩) (by assumption) ?_
        rotate_left
        ·intro w hSw; (try dsimp only at hSw); go_simp; (try with_reducible rfl)
        (try simp only [Act.put, List.getElem_toArray, List.getElem_cons_zero, List.getElem_cons_succ, List.setIfInBounds_toArray, List.set_cons_zero, List.set_cons_succ])
        refine wpAnyH_take (i := 5) (v := ?_) rfl (by kernel_rfl) (by kernel_rfl) (by kernel_rfl) (fun _ _ _ h => h) (Or.inl ⟨by kernel_rfl, ?_⟩) (by assumption) ?_
        rotate_left
        ·intro w hSw; (try dsimp only at hSw); go_simp; (try with_reducible rfl)
        (try simp only [Act.put, List.getElem_toArray, List.getElem_cons_zero, List.getElem_cons_succ, List.setIfInBounds_toArray, List.set_cons_zero, List.set_cons_succ])
        refine wpAnyH_take (i := 6) (v := ?_) rfl (by kernel_rfl) (by kernel_rfl) (by kernel_rfl) (fun _ _ _ h => h) (Or.inl ⟨by kernel_rfl, ?_⟩) (by assumption) ?_
        rotate_left
        ·intro w hSw; (try dsimp only at hSw); go_simp; (try with_reducible rfl)
        (try simp only [Act.put, List.getElem_toArray, List.getElem_cons_zero, List.getElem_cons_succ, List.setIfInBounds_toArray, List.set_cons_zero, List.set_cons_succ])
        refine wpAnyH_take (i := 7) (v := ?_) rfl (by kernel_rfl) (by kernel_rfl) (by kernel_rfl) (fun _ _ _ h => h) (Or.inl ⟨by kernel_rfl, ?_⟩) (by assumption) ?_
        rotate_left
        ·intro w hSw; (try dsimp only at hSw); go_simp; (try with_reducible rfl)
        (try simp only [Act.put, List.getElem_toArray, List.getElem_cons_zero, List.getElem_cons_succ, List.setIfInBounds_toArray, List.set_cons_zero, List.set_cons_succ])
        refine wpAnyH_take (i := 8) (v := ?_) rfl (by kernel_rfl) (by kernel_rfl) (by kernel_rfl) (fun _ _ _ h => h) (Or.inl ⟨by kernel_rfl, ?_⟩) (by assumption) ?_
        rotate_left
        ·intro w hSw; (try dsimp only at hSw); go_simp; (try with_reducible rfl)
        (try simp only [Act.put, List.getElem_toArray, List.getElem_cons_zero, List.getElem_cons_succ, List.setIfInBounds_toArray, List.set_cons_zero, List.set_cons_succ])
        refine wpAnyH_ready (rs := [9]) (by kernel_rfl) (by simp) ?_
        refine AllReadyH.cons rfl (fun K hK => ?_) AllReadyH.nil
        go_simp
        go_at_call 104
        refine (HWA.out _ (Kept.refl _).drew).mono ?_
        rintro e w6 ⟨rfl, k6⟩
        have k6 := (Kept.refl X).drew.trans k6
        refine hK.out _ _ ⟨k6.cell e1, k6.cell e2, k6.cell c1, k6.cell c2, k6⟩ (fun hHeld1 => ?_)
        clear hK K
        (try simp only [Act.put, List.getElem_toArray, List.getElem_cons_zero, List.getElem_cons_succ, List.setIfInBounds_toArray, List.set_cons_zero, List.set_cons_succ])
        clear hHeld0
        refine wpAnyH_take (i := 10) (v := ?_) rfl (by kernel_rfl) (by kernel_rfl) (by kernel_rfl) (fun _ _ _ h => h) (Or.inl ⟨by kernel_rfl, ?_⟩) (by assumption) ?_
        rotate_left
        ·intro w hSw; (try dsimp only at hSw); go_simp; (try with_reducible rfl)
        (try simp only [Act.put, List.getElem_toArray, List.getElem_cons_zero, List.getElem_cons_succ, List.setIfInBounds_toArray, List.set_cons_zero, List.set_cons_succ])
        refine wpAnyH_take (i := 11) (v := ?_) rfl (by kernel_rfl) (by kernel_rfl) (by kernel_rfl) (fun _ _ _ h => h) (Or.inl ⟨by kernel_rfl, ?_⟩) (by assumption) ?_
        rotate_left
        ·intro w hSw; (try dsimp only at hSw); go_simp; (try with_reducible rfl)
        (try simp only [Act.put, List.getElem_toArray, List.getElem_cons_zero, List.getElem_cons_succ, List.setIfInBounds_toArray, List.set_cons_zero, List.set_cons_succ])
        refine wpAnyH_take (i := 12) (v := ?_) rfl (by kernel_rfl) (by kernel_rfl) (by kernel_rfl) (fun _ _ _ h => h) (Or.inl ⟨by kernel_rfl, ?_⟩) (by assumption) ?_
        rotate_left
        ·intro w hSw; (try dsimp only at hSw); go_simp; (try with_reducible rfl)
        (try simp only [Act.put, List.getElem_toArray, List.getElem_cons_zero, List.getElem_cons_succ, List.setIfInBounds_toArray, List.set_cons_zero, List.set_cons_succ])
        refine wpAnyH_take (i := 13) (v := ?_) rfl (by kernel_rfl) (by kernel_rfl) (by kernel_rfl) (fun _ _ _ h => h) (Or.inl ⟨by kernel_rfl, ?_⟩) (by assumption) ?_
        rotate_left
        ·intro w hSw; (try dsimp only at hSw); go_simp; (try with_reducible rfl)
        (try simp only [Act.put, List.getElem_toArray, List.getElem_cons_zero, List.getElem_cons_succ, List.setIfInBounds_toArray, List.set_cons_zero, List.set_cons_succ])
        refine wpAnyH_take (i := 14) (v := ?_) rfl (by kernel_rfl) (by kernel_rfl) (by kernel_rfl) (fun _ _ _ h => h) (Or.inl ⟨by kernel_rfl, ?_⟩) (by assumption) ?_
        rotate_left
        ·intro w hSw; (try dsimp only at hSw); go_simp; (try with_reducible rfl)
        (try simp only [Act.put, List.getElem_toArray, List.getElem_cons_zero, List.getElem_cons_succ, List.setIfInBounds_toArray, List.set_cons_zero, List.set_cons_succ])
        refine wpAnyH_take (i := 15) (v := ?_) rfl (by kernel_rfl) (by kernel_rfl) (by kernel_rfl) (fun _ _ _ h => h) (Or.inl ⟨by kernel_rfl, ?_⟩) (by assumption) ?_
        rotate_left
        ·intro w hSw; (try dsimp only at hSw); go_simp; (try with_reducible rfl)
        (try simp only [Act.put, List.getElem_toArray, List.getElem_cons_zero, List.getElem_cons_succ, List.setIfInBounds_toArray, List.set_cons_zero, List.set_cons_succ])
        refine wpAnyH_take (i := 16) (v := ?_) rfl (by kernel_rfl) (by kernel_rfl) (by kernel_rfl) (fun _ _ _ h => h) (Or.inl ⟨by kernel_rfl, ?_⟩) (by assumption) ?_
        rotate_left
        ·intro w hSw; (try dsimp only at hSw); go_simp; (try with_reducible rfl)
        (try simp only [Act.put, List.getElem_toArray, List.getElem_cons_zero, List.getElem_cons_succ, List.setIfInBounds_toArray, List.set_cons_zero, List.set_cons_succ])
        refine wpAnyH_take (i := 17) (v := ?_) rfl (by kernel_rfl) (by kernel_rfl) (by kernel_rfl) (fun _ _ _ h => h) (Or.inl ⟨by kernel_rfl, ?_⟩) (by assumption) ?_
        rotate_left
        ·intro w hSw; (try dsimp only at hSw); go_simp; (try with_reducible rfl)
        (try simp only [Act.put, List.getElem_toArray, List.getElem_cons_zero, List.getElem_cons_succ, List.setIfInBounds_toArray, List.set_cons_zero, List.set_cons_succ])
        refine wpAnyH_take (i := 18) (v := ?_) rfl (by kernel_rfl) (by kernel_rfl) (by kernel_rfl) (fun _ _ _ h => h) (Or.inl ⟨by kernel_rfl, ?_⟩) (by assumption) ?_
        rotate_left
        ·intro w hSw; (try dsimp only at hSw); go_simp; (try with_reducible rfl)
        (try simp only [Act.put, List.getElem_toArray, List.getElem_cons_zero, List.getElem_cons_succ, List.setIfInBounds_toArray, List.set_cons_zero, List.set_cons_succ])
        refine wpAnyH_take (i := 19) (v := ?_) rfl (by kernel_rfl) (by kernel_rfl) (by kernel_rfl) (fun _ _ _ h => h) (Or.inl ⟨by kernel_rfl, ?_⟩) (by assumption) ?_
        rotate_left
        ·intro w hSw; (try dsimp only at hSw); go_simp; (try with_reducible rfl)
        (try simp only [Act.put, List.getElem_toArray, List.getElem_cons_zero, List.getElem_cons_succ, List.setIfInBounds_toArray, List.set_cons_zero, List.set_cons_succ])
        refine wpAnyH_take (i := 20) (v := ?_) rfl (by kernel_rfl) (by kernel_rfl) (by kernel_rfl) (fun _ _ _ h => h) (Or.inl ⟨by kernel_rfl, ?_⟩) (by assumption) ?_
        rotate_left
        ·intro w hSw; (try dsimp only at hSw); go_simp; (try with_reducible rfl)
        (try simp only [Act.put, List.getElem_toArray, List.getElem_cons_zero, List.getElem_cons_succ, List.setIfInBounds_toArray, List.set_cons_zero, List.set_cons_succ])
        refine wpAnyH_take (i := 21) (v := ?_) rfl (by kernel_rfl) (by kernel_rfl) (by kernel_rfl) (fun _ _ _ h => h) (Or.inl ⟨by kernel_rfl, ?_⟩) (by assumption) ?_
        rotate_left
        ·intro w hSw; (try dsimp only at hSw); go_simp; (try with_reducible rfl)
        (try simp only [Act.put, List.getElem_toArray, List.getElem_cons_zero, List.getElem_cons_succ, List.setIfInBounds_toArray, List.set_cons_zero, List.set_cons_succ])
        refine wpAnyH_take (i := 22) (v := ?_) rfl (by kernel_rfl) (by kernel_rfl) (by kernel_rfl) (fun _ _ _ h => h) (Or.inl ⟨by kernel_rfl, ?_⟩) (by assumption) ?_
        rotate_left
        ·intro w hSw; (try dsimp only at hSw); go_simp; (try with_reducible rfl)
        (try simp only [Act.put, List.getElem_toArray, List.getElem_cons_zero, List.getElem_cons_succ, List.setIfInBounds_toArray, List.set_cons_zero, List.set_cons_succ])
        refine wpAnyH_done (by kernel_rfl) ?_ _
        have HE1 := Lib.hid (k6.cell e1)
        have HC1 := Lib.hid (k6.cell c1)
        have HW6 := Lib.hid (HK4.out.trans (HK5.out.trans k6))
        have HK36 := Lib.hid (HK5.out.trans k6)
        have HQ6 := Lib.hid (HQM.out.kept k6)
        have HP6 := Lib.hid (HPM.out.kept HK36.out)
        clear hHeld1 e1 e2 c1 c2 k6
        go_wp2_with fail
        go_loopw [18] (fun z wr => ∃ i : Nat, z = .int .i64 i ∧ i ≤ yn ∧ ((List.zip y.params m.params).take i).all (Tab.clP t L) = true ∧ Kept w6 wr) (fun z wr => yn - (intOf z).toNat)
        case atStart => exact ⟨0, rfl, Nat.zero_le _, by rfl, Kept.refl _⟩
        case round =>
         obtain ⟨i, rfl, hi, hal2, hk6⟩ := hrel
         obtain ⟨wk, rfl⟩ : ∃ wk, wk = wr := ⟨_, rfl⟩
         have HAL2 := Lib.hid hal2
         have HK8 := Lib.hid (HW6.out.trans hk6)
         have HK68 := Lib.hid hk6
         have HKL8 := Lib.hid (HK36.out.trans hk6)
         have s1 := hk6.cell HE1.out
         have u1 := hk6.cell HC1.out
         clear hal2 hk6
         by_cases hil : i < yn
         ·have hilI : (i : Int) < (yn : Int) := by omega
          have hip : i < y.params.length := by rw [HYN.out]; exact hil
          have hiq : i < m.params.length := by rw [HMN.out]; exact hil
          have hpx : y.params[i]? = some y.params[i] := List.getElem?_eq_getElem hip
          have hqx : m.params[i]? = some m.params[i] := List.getElem?_eq_getElem hiq
          obtain ⟨qb, rfl, y1⟩ := HQ6.out.kept HK68.out i _ hpx
          obtain ⟨pb, rfl, m1⟩ := HP6.out.kept HK68.out i _ hqx
          have HZ := Lib.hid (zip_atG hpx hqx)
          generalize y.params[i] = xp at hpx y1 HZ
          generalize m.params[i] = xq at hqx m1 HZ
          have HHR2 := Lib.hid (HW.out xq.typ xp.typ wk.drew HK8.out.drew)
          obtain ⟨r2, hr2⟩ : ∃ r, Tab.within t L xq.typ xp.typ = r := ⟨_, rfl⟩
          rw [hr2] at HHR2
          have HRR2 := Lib.hid (show Tab.clP t L (xp, xq) = r2 from hr2)
          clear hpx hqx hr2
          go_wp2_with fail
          go_still_tail 17, (by kernel_rfl)
          change wpList _ _ _ _ _ wk.drew
          clear s1 u1 y1 m1
          go_wp2_with fail
          refine HHR2.out.mono ?_
          rintro e w9 ⟨rfl, k9⟩
          have HK9 := Lib.hid (HK8.out.drew.trans k9)
          have HK69 := Lib.hid (HK68.out.drew.trans k9)
          clear k9
          cases r2 with
          | false =>
           have HR := Lib.hid (show hb = false by rw [HQ2.out, ← HMS.out, Tab.all_no HX.out (by rw [HCM2.out, Tab.all_no HZ.out HRR2.out])])
           go_wp2_with fail
           go_ret
           exact ⟨by rw [HR.out]; first | done | rfl, HK9.out⟩
          | true =>
           have HN := Lib.hid (Tab.all_next HAL2.out HZ.out HRR2.out)
           go_wp2_with fail
           go_roundw
           case rel => (first | exact ⟨i + 1, by go_num, by omega, HN.out, HK69.out⟩ | ((repeat apply Exists.intro); exact ⟨⟨i + 1, by go_num, by omega, HN.out, HK69.out⟩, rfl⟩))
           case measure => simp [intOf]; omega
         ·have hilI : ¬ (i : Int) < (yn : Int) := by omega
          have HZA := Lib.hid (show (List.zip y.params m.params).all (Tab.clP t L) = true by
           have := HAL2.out
           rwa [List.take_of_length_le (by rw [List.length_zip, HYN.out, HMN.out]; omega)] at this)
          have HN := Lib.hid (Tab.all_next HAL.out HX.out (by rw [HCM2.out, HZA.out]))
          clear u1
          go_wp2_with fail
          go_roundw
          case rel => (first | exact ⟨j + 1, by omega, by go_num, HKL8.out, HN.out⟩ | ((repeat apply Exists.intro); exact ⟨⟨j + 1, by omega, by go_num, HKL8.out, HN.out⟩, rfl⟩))
          case measure => simp [intOf]; omega
       ·have HR := Lib.hid (show hb = false by rw [HQ2.out, ← HMS.out, Tab.all_no HX.out (by rw [HCM.out, decide_eq_false (fun e => hpl (by rw [← hn, ← hyn]; exact e))]; rfl)])
        rw [hn] at C1 hmp c1
        rw [hyn] at e1 hql
        rw [hyn]
        have hpi : ((yn : Int) != (n : Int)) = true := by simp; omega
        clear y1 HCM HX HAL hn hyn hpl
        refine wp_region_held_drew (S := (fun W => W.cell? ⟨w5.heap.size, 1, none⟩ = some (.slice qa yn qc) ∧ W.cell? ⟨w5.heap.size, 2, none⟩ = some (.string y.res) ∧ W.cell? ⟨g, j * 3 + 1, none⟩ = some (.slice pa n pc) ∧ W.cell? ⟨g, j * 3 + 2, none⟩ = some (.string m.res) ∧ Kept X W)) (by kernel_rfl) ⟨(Kept.refl X).drew.cell e1, (Kept.refl X).drew.cell e2, (Kept.refl X).drew.cell c1, (Kept.refl X).drew.cell c2, (Kept.refl X).drew⟩ (fun hHeld0 => ?_)
        refine wpAnyH_take (i := 0) (v := ?_) rfl (by kernel_rfl) (by kernel_rfl) (by kernel_rfl) (fun _ _ _ h => h) (Or.inl ⟨by kernel_rfl, ?_⟩) (by assumption) ?_
        rotate_left
        ·intro w hSw; (try dsimp only at hSw); go_simp; (try with_reducible rfl)
        (try simp only [Act.put, List.getElem_toArray, List.getElem_cons_zero, List.getElem_cons_succ, List.setIfInBounds_toArray, List.set_cons_zero, List.set_cons_succ])
        refine wpAnyH_take (i := 1) (v := ?_) rfl (by kernel_rfl) (by kernel_rfl) (by kernel_rfl) (fun _ _ _ h => h) (Or.inl ⟨by kernel_rfl, ?_⟩) (by assumption) ?_
        rotate_left
        ·intro w hSw; (try dsimp only at hSw); go_simp; (try with_reducible rfl)
        (try simp only [Act.put, List.getElem_toArray, List.getElem_cons_zero, List.getElem_cons_succ, List.setIfInBounds_toArray, List.set_cons_zero, List.set_cons_succ])
        refine wpAnyH_take (i := 2) (v := ?_) rfl (by kernel_rfl) (by kernel_rfl) (by kernel_rfl) (fun _ _ _ h => h) (Or.inl ⟨by kernel_rfl, ?_⟩) (by assumption) ?_
        rotate_left
        ·intro w hSw; (try dsimp only at hSw); go_simp; (try with_reducible rfl)
        (try simp only [Act.put, List.getElem_toArray, List.getElem_cons_zero, List.getElem_cons_succ, List.setIfInBounds_toArray, List.set_cons_zero, List.set_cons_succ])
        refine wpAnyH_take (i := 3) (v := ?_) rfl (by kernel_rfl) (by kernel_rfl) (by kernel_rfl) (fun _ _ _ h => h) (Or.inl ⟨by kernel_rfl, ?_⟩) (by assumption) ?_
        rotate_left
        ·intro w hSw; (try dsimp only at hSw); go_simp; (try with_reducible rfl)
        (try simp only [Act.put, List.getElem_toArray, List.getElem_cons_zero, List.getElem_cons_succ, List.setIfInBounds_toArray, List.set_cons_zero, List.set_cons_succ])
        refine wpAnyH_take (i := 4) (v := ?_) rfl (by kernel_rfl) (by kernel_rfl) (by kernel_rfl) (fun _ _ _ h => h) (Or.inl ⟨by kernel_rfl, ?_⟩) (by assumption) ?_
        rotate_left
        ·intro w hSw; (try dsimp only at hSw); go_simp; (try with_reducible rfl)
        (try simp only [Act.put, List.getElem_toArray, List.getElem_cons_zero, List.getElem_cons_succ, List.setIfInBounds_toArray, List.set_cons_zero, List.set_cons_succ])
        refine wpAnyH_take (i := 5) (v := ?_) rfl (by kernel_rfl) (by kernel_rfl) (by kernel_rfl) (fun _ _ _ h => h) (Or.inl ⟨by kernel_rfl, ?_⟩) (by assumption) ?_
        rotate_left
        ·intro w hSw; (try dsimp only at hSw); go_simp; (try with_reducible rfl)
        (try simp only [Act.put, List.getElem_toArray, List.getElem_cons_zero, List.getElem_cons_succ, List.setIfInBounds_toArray, List.set_cons_zero, List.set_cons_succ])
        refine wpAnyH_take (i := 6) (v := ?_) rfl (by kernel_rfl) (by kernel_rfl) (by kernel_rfl) (fun _ _ _ h => h) (Or.inl ⟨by kernel_rfl, ?_⟩) (by assumption) ?_
        rotate_left
        ·intro w hSw; (try dsimp only at hSw); go_simp; (try with_reducible rfl)
        (try simp only [Act.put, List.getElem_toArray, List.getElem_cons_zero, List.getElem_cons_succ, List.setIfInBounds_toArray, List.set_cons_zero, List.set_cons_succ])
        refine wpAnyH_take (i := 7) (v := ?_) rfl (by kernel_rfl) (by kernel_rfl) (by kernel_rfl) (fun _ _ _ h => h) (Or.inl ⟨by kernel_rfl, ?_⟩) (by assumption) ?_
        rotate_left
        ·intro w hSw; (try dsimp only at hSw); go_simp; (try with_reducible rfl)
        (try simp only [Act.put, List.getElem_toArray, List.getElem_cons_zero, List.getElem_cons_succ, List.setIfInBounds_toArray, List.set_cons_zero, List.set_cons_succ])
        refine wpAnyH_take (i := 8) (v := ?_) rfl (by kernel_rfl) (by kernel_rfl) (by kernel_rfl) (fun _ _ _ h => h) (Or.inl ⟨by kernel_rfl, ?_⟩) (by assumption) ?_
        rotate_left
        ·intro w hSw; (try dsimp only at hSw); go_simp; (try with_reducible rfl)
        (try simp only [Act.put, List.getElem_toArray, List.getElem_cons_zero, List.getElem_cons_succ, List.setIfInBounds_toArray, List.set_cons_zero, List.set_cons_succ])
        refine wpAnyH_ready (rs := [9]) (by kernel_rfl) (by simp) ?_
        refine AllReadyH.cons rfl (fun K hK => ?_) AllReadyH.nil
        go_simp
        go_at_call 104
        refine (HWA.out _ (Kept.refl _).drew).mono ?_
        rintro e w6 ⟨rfl, k6⟩
        have k6 := (Kept.refl X).drew.trans k6
        refine hK.out _ _ ⟨k6.cell e1, k6.cell e2, k6.cell c1, k6.cell c2, k6⟩ (fun hHeld1 => ?_)
        clear hK K
        (try simp only [Act.put, List.getElem_toArray, List.getElem_cons_zero, List.getElem_cons_succ, List.setIfInBounds_toArray, List.set_cons_zero, List.set_cons_succ])
        clear hHeld0
        refine wpAnyH_take (i := 10) (v := ?_) rfl (by kernel_rfl) (by kernel_rfl) (by kernel_rfl) (fun _ _ _ h => h) (Or.inl ⟨by kernel_rfl, ?_⟩) (by assumption) ?_
        rotate_left
        ·intro w hSw; (try dsimp only at hSw); go_simp; (try with_reducible rfl)
        (try simp only [Act.put, List.getElem_toArray, List.getElem_cons_zero, List.getElem_cons_succ, List.setIfInBounds_toArray, List.set_cons_zero, List.set_cons_succ])
        refine wpAnyH_take (i := 11) (v := ?_) rfl (by kernel_rfl) (by kernel_rfl) (by kernel_rfl) (fun _ _ _ h => h) (Or.inl ⟨by kernel_rfl, ?_⟩) (by assumption) ?_
        rotate_left
        ·intro w hSw; (try dsimp only at hSw); go_simp; (try with_reducible rfl)
        (try simp only [Act.put, List.getElem_toArray, List.getElem_cons_zero, List.getElem_cons_succ, List.setIfInBounds_toArray, List.set_cons_zero, List.set_cons_succ])
        refine wpAnyH_take (i := 12) (v := ?_) rfl (by kernel_rfl) (by kernel_rfl) (by kernel_rfl) (fun _ _ _ h => h) (Or.inl ⟨by kernel_rfl, ?_⟩) (by assumption) ?_
        rotate_left
        ·intro w hSw; (try dsimp only at hSw); go_simp; (try with_reducible rfl)
        (try simp only [Act.put, List.getElem_toArray, List.getElem_cons_zero, List.getElem_cons_succ, List.setIfInBounds_toArray, List.set_cons_zero, List.set_cons_succ])
        refine wpAnyH_take (i := 13) (v := ?_) rfl (by kernel_rfl) (by kernel_rfl) (by kernel_rfl) (fun _ _ _ h => h) (Or.inl ⟨by kernel_rfl, ?_⟩) (by assumption) ?_
        rotate_left
        ·intro w hSw; (try dsimp only at hSw); go_simp; (try with_reducible rfl)
        (try simp only [Act.put, List.getElem_toArray, List.getElem_cons_zero, List.getElem_cons_succ, List.setIfInBounds_toArray, List.set_cons_zero, List.set_cons_succ])
        refine wpAnyH_take (i := 14) (v := ?_) rfl (by kernel_rfl) (by kernel_rfl) (by kernel_rfl) (fun _ _ _ h => h) (Or.inl ⟨by kernel_rfl, ?_⟩) (by assumption) ?_
        rotate_left
        ·intro w hSw; (try dsimp only at hSw); go_simp; (try with_reducible rfl)
        (try simp only [Act.put, List.getElem_toArray, List.getElem_cons_zero, List.getElem_cons_succ, List.setIfInBounds_toArray, List.set_cons_zero, List.set_cons_succ])
        refine wpAnyH_take (i := 15) (v := ?_) rfl (by kernel_rfl) (by kernel_rfl) (by kernel_rfl) (fun _ _ _ h => h) (Or.inl ⟨by kernel_rfl, ?_⟩) (by assumption) ?_
        rotate_left
        ·intro w hSw; (try dsimp only at hSw); go_simp; (try with_reducible rfl)
        (try simp only [Act.put, List.getElem_toArray, List.getElem_cons_zero, List.getElem_cons_succ, List.setIfInBounds_toArray, List.set_cons_zero, List.set_cons_succ])
        refine wpAnyH_take (i := 16) (v := ?_) rfl (by kernel_rfl) (by kernel_rfl) (by kernel_rfl) (fun _ _ _ h => h) (Or.inl ⟨by kernel_rfl, ?_⟩) (by assumption) ?_
        rotate_left
        ·intro w hSw; (try dsimp only at hSw); go_simp; (try with_reducible rfl)
        (try simp only [Act.put, List.getElem_toArray, List.getElem_cons_zero, List.getElem_cons_succ, List.setIfInBounds_toArray, List.set_cons_zero, List.set_cons_succ])
        refine wpAnyH_take (i := 17) (v := ?_) rfl (by kernel_rfl) (by kernel_rfl) (by kernel_rfl) (fun _ _ _ h => h) (Or.inl ⟨by kernel_rfl, ?_⟩) (by assumption) ?_
        rotate_left
        ·intro w hSw; (try dsimp only at hSw); go_simp; (try with_reducible rfl)
        (try simp only [Act.put, List.getElem_toArray, List.getElem_cons_zero, List.getElem_cons_succ, List.setIfInBounds_toArray, List.set_cons_zero, List.set_cons_succ])
        refine wpAnyH_take (i := 18) (v := ?_) rfl (by kernel_rfl) (by kernel_rfl) (by kernel_rfl) (fun _ _ _ h => h) (Or.inl ⟨by kernel_rfl, ?_⟩) (by assumption) ?_
        rotate_left
        ·intro w hSw; (try dsimp only at hSw); go_simp; (try with_reducible rfl)
        (try simp only [Act.put, List.getElem_toArray, List.getElem_cons_zero, List.getElem_cons_succ, List.setIfInBounds_toArray, List.set_cons_zero, List.set_cons_succ])
        refine wpAnyH_take (i := 19) (v := ?_) rfl (by kernel_rfl) (by kernel_rfl) (by kernel_rfl) (fun _ _ _ h => h) (Or.inl ⟨by kernel_rfl, ?_⟩) (by assumption) ?_
        rotate_left
        ·intro w hSw; (try dsimp only at hSw); go_simp; (try with_reducible rfl)
        (try simp only [Act.put, List.getElem_toArray, List.getElem_cons_zero, List.getElem_cons_succ, List.setIfInBounds_toArray, List.set_cons_zero, List.set_cons_succ])
        refine wpAnyH_take (i := 20) (v := ?_) rfl (by kernel_rfl) (by kernel_rfl) (by kernel_rfl) (fun _ _ _ h => h) (Or.inl ⟨by kernel_rfl, ?_⟩) (by assumption) ?_
        rotate_left
        ·intro w hSw; (try dsimp only at hSw); go_simp; (try with_reducible rfl)
        (try simp only [Act.put, List.getElem_toArray, List.getElem_cons_zero, List.getElem_cons_succ, List.setIfInBounds_toArray, List.set_cons_zero, List.set_cons_succ])
        refine wpAnyH_take (i := 21) (v := ?_) rfl (by kernel_rfl) (by kernel_rfl) (by kernel_rfl) (fun _ _ _ h => h) (Or.inl ⟨by kernel_rfl, ?_⟩) (by assumption) ?_
        rotate_left
        ·intro w hSw; (try dsimp only at hSw); go_simp; (try with_reducible rfl)
        (try simp only [Act.put, List.getElem_toArray, List.getElem_cons_zero, List.getElem_cons_succ, List.setIfInBounds_toArray, List.set_cons_zero, List.set_cons_succ])
        refine wpAnyH_take (i := 22) (v := ?_) rfl (by kernel_rfl) (by kernel_rfl) (by kernel_rfl) (fun _ _ _ h => h) (Or.inl ⟨by kernel_rfl, ?_⟩) (by assumption) ?_
        rotate_left
        ·intro w hSw; (try dsimp only at hSw); go_simp; (try with_reducible rfl)
        (try simp only [Act.put, List.getElem_toArray, List.getElem_cons_zero, List.getElem_cons_succ, List.setIfInBounds_toArray, List.set_cons_zero, List.set_cons_succ])
        refine wpAnyH_done (by kernel_rfl) ?_ _
        clear hHeld1 e1 e2 c1 c2
        have HW6 := Lib.hid (HK4.out.trans (HK5.out.trans k6))
        go_wp2_with fail
        go_ret
        exact ⟨by rw [HR.out]; first | done | rfl, HW6.out⟩
     ·have hltI : ¬ (j : Int) < (ms.length : Int) := by omega
      obtain rfl : j = ms.length := by omega
      have HR := Lib.hid (show hb = true by
       have := HAL.out
       rw [show ms.length = (ms.map Prod.fst).length by simp, List.take_length, HMS.out] at this
       rw [HQ2.out, this])
      clear HAL
      go_wp2_with fail
      go_ret
      exact ⟨by rw [HR.out]; rfl, HKV.out⟩
end Go.Proofs.YthooiofaicdhgaaGreatDoor
