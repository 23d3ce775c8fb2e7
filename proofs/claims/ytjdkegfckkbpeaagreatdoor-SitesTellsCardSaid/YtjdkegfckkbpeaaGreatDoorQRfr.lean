/- The document's own answers about tables (chaperonref05): field. -/
import Derived.Test.YtjdkegfckkbpeaaGreatDoorQTkl
import Derived.Test.YtjdkegfckkbpeaaGreatDoorQTkk
import Derived.Test.YtjdkegfckkbpeaaGreatDoorQRfq
import Derived.Deep.RegionHeld3
set_option linter.unusedSimpArgs false
set_option linter.unusedVariables false
set_option maxRecDepth 100000
namespace Go.Proofs.YtjdkegfckkbpeaaGreatDoor
open Go.ChangeShapes Go.WideShapes Go.ChangeAt Go.RowKit
theorem any_take {l : List Tab.V} {i : Nat} {s : ByteArray} (h : ∀ y ∈ l.take i, ¬ y.name = s) : ((l.take i).any fun x => decide (x.name = s)) = false := by
 rw [← Bool.not_eq_true, List.any_eq_true]
 rintro ⟨y, hy, e⟩
 exact h y hy (of_decide_eq_true e)
set_option maxHeartbeats 32000000 in
theorem rfield1_c (t : List Tab.C) (a : Option Addr) (cp : Nat) (C : Tab.C) (fv mv : Value) (i : Nat) (w0 w : World) (hw : Kept w0 w) (h : TabAt w0 (.slice a t.length cp) t) (hS : Small t) (hf : Row 2 VarAt w0 fv C.fields) (hm : ∃ ma mn mc, mv = .slice ma mn mc) (hi : i < C.fields.length) :
  Calls Tryz.prog 105 #[.slice a t.length cp, .agg #[.string C.name, .string C.super, fv, mv], .int .i64 i] w fun e w' => e = .returned (.int .i64 (Tab.rField t C i)) ∧ Kept w w' := by
 obtain ⟨pa, pc, rfl, a1, a2, a3⟩ := hf
 obtain ⟨ma, mn, mc, rfl⟩ := hm
 unfold maxLen at a2
 have HA := Lib.hid a3
 have HW := Lib.hid hw
 have HTY := Lib.hid (fun s W (k : Kept w W) => rtyped_c t (.slice a t.length cp) s W (tab_kept h (hw.trans k)))
 have HAB := Lib.hid (fun ms W (k : Kept w W) => rabove_c ms t a cp C.name C.super (.slice pa C.fields.length pc) (.slice ma mn mc) W (tab_kept h (hw.trans k)) hS ⟨_, _, _, rfl⟩ ⟨_, _, _, rfl⟩)
 clear a3 hw h hS
 have hx : C.fields[i]? = some C.fields[i] := List.getElem?_eq_getElem hi
 have HRF := Lib.hid (show Tab.rField t C i = if Tab.chkVar t C.fields[i] = 0 then (if ((C.fields.take i).any fun x => decide (x.name = C.fields[i].name)) = true then 8 else if Tab.inN (Tab.aboveN t C.super false) C.fields[i].name = true then 8 else if Tab.inN (Tab.aboveN t C.super true) C.fields[i].name = true then 8 else 0) else Tab.chkVar t C.fields[i] by
  unfold Tab.rField
  rw [hx])
 generalize Tab.rField t C i = ans at HRF ⊢
 generalize C.fields[i] = x at hx HRF
 obtain ⟨an, han⟩ : ∃ x, C.name = x := ⟨_, rfl⟩
 obtain ⟨sp, har⟩ : ∃ x, C.super = x := ⟨_, rfl⟩
 obtain ⟨ps, hps⟩ : ∃ x, C.fields = x := ⟨_, rfl⟩
 rw [hps] at a1 HA HAB hi hx HRF ⊢
 rw [han] at HAB ⊢
 rw [har] at HAB HRF ⊢
 clear han har hps
 have hiI : (i : Int) < (ps.length : Int) := by omega
 obtain ⟨xb, xo, rfl, xc⟩ := HA.out _ _ hx
 have HX := Lib.hid hx
 obtain ⟨y0, y1, z0, z1⟩ := xc
 unfold maxLen at z0 z1
 have B4 := Lib.hid (Blk.new w 44 #[.string an, .string sp, .slice (some ⟨xb, xo, none⟩) ps.length pc, .slice ma mn mc])
 have HK4 := Lib.hid ((Kept.refl w).alloc (.cells #[.string an, .string sp, .slice (some ⟨xb, xo, none⟩) ps.length pc, .slice ma mn mc] 44))
 have e0 := (HW.out.trans HK4.out).cell y0
 have e1 := (HW.out.trans HK4.out).cell y1
 have hbx := (B4.out.alloc (.cells #[.string x.name, .string x.typ] 72))
 have B4' := Lib.hid hbx
 have hb7 := Blk.new (w.alloc (.cells #[.string an, .string sp, .slice (some ⟨xb, xo, none⟩) ps.length pc, .slice ma mn mc] 44)) 72 #[.string x.name, .string x.typ]
 rw [World.size_alloc] at hb7
 have B7 := Lib.hid hb7
 have HK7 := Lib.hid (HK4.out.alloc (.cells #[.string x.name, .string x.typ] 72))
 have HNM := Lib.hid (fun W => nameR_c x.name W (by omega))
 have HTP := Lib.hid (fun W => typeR_c x.typ W (by omega))
 have HTD := Lib.hid (fun W k => HTY.out x.typ W k (by omega))
 have HCT := Lib.hid (chkType_eq t x.typ)
 have HCV := Lib.hid (show Tab.chkVar t x = if Wrd.name x.name = true then Tab.chkType t x.typ else 5 from rfl)
 generalize Tab.chkVar t x = cv at HCV HRF
 generalize Tab.chkType t x.typ = ct at HCT HCV HTD
 clear hx y0 y1 z0 z1 hbx hb7
 cases hnm : Wrd.name x.name with
 | false =>
  rw [hnm] at HNM HCV
  obtain rfl : cv = 5 := HCV.out
  obtain rfl : ans = 5 := HRF.out
  clear hnm
  go_enter Tryz.func105, Tryz.ntmps105
  go_wp2_with fail
  refine (HNM.out _).mono ?_
  rintro e w2 ⟨rfl, k2⟩
  have HK2 := Lib.hid (HK7.out.trans k2)
  clear k2
  go_wp2_with fail
  go_ret
  exact ⟨rfl, HK2.out⟩
 | true =>
  rw [hnm] at HNM HCV
  clear hnm
  cases htp : Wrd.typ x.typ with
  | false =>
   rw [htp] at HTP HCT
   obtain rfl : ct = 5 := HCT.out
   obtain rfl : cv = 5 := HCV.out
   obtain rfl : ans = 5 := HRF.out
   clear htp
   go_enter Tryz.func105, Tryz.ntmps105
   go_wp2_with fail
   refine (HNM.out _).mono ?_
   rintro e w2 ⟨rfl, k2⟩
   have HK2 := Lib.hid (HK7.out.trans k2)
   have b72 := B7.out.kept k2
   have r1 := b72.cell 1
   simp only [List.getElem?_toArray, List.getElem?_cons_zero, List.getElem?_cons_succ] at r1
   clear k2 b72
   go_wp2_with fail
   refine (HTP.out _).mono ?_
   rintro e w3 ⟨rfl, k3⟩
   have HK3 := Lib.hid (HK2.out.trans k3)
   clear k3
   go_wp2_with fail
   go_ret
   exact ⟨rfl, HK3.out⟩
  | true =>
   rw [htp] at HTP
   have HCE := Lib.hid (show cv = ct from HCV.out)
   clear htp
   go_enter Tryz.func105, Tryz.ntmps105
   go_wp2_with fail
   refine (HNM.out _).mono ?_
   rintro e w2 ⟨rfl, k2⟩
   have HK2 := Lib.hid (HK7.out.trans k2)
   have b42 := B4'.out.kept k2
   have b72 := B7.out.kept k2
   have r1 := b72.cell 1
   simp only [List.getElem?_toArray, List.getElem?_cons_zero, List.getElem?_cons_succ] at r1
   have B42 := Lib.hid b42
   have B72 := Lib.hid b72
   clear k2 b42 b72
   go_wp2_with fail
   refine (HTP.out _).mono ?_
   rintro e w3 ⟨rfl, k3⟩
   have HK3 := Lib.hid (HK2.out.trans k3)
   have b73 := B72.out.kept k3
   have s1 := b73.cell 1
   simp only [List.getElem?_toArray, List.getElem?_cons_zero, List.getElem?_cons_succ] at s1
   have B43 := Lib.hid (B42.out.kept k3)
   have B73 := Lib.hid b73
   clear k3 b73 r1
   go_wp2_with fail
   refine (HTD.out w3 HK3.out).mono ?_
   rintro e w4 ⟨rfl, k4⟩
   have HK44 := Lib.hid (HK3.out.trans k4)
   have B44 := Lib.hid (B43.out.kept k4)
   have B74 := Lib.hid (B73.out.kept k4)
   clear k4 s1
   by_cases hc0 : ct = 0
   ·subst hc0
    have hcv : cv = 0 := HCE.out
    have HR2 := Lib.hid (show ans = _ by rw [HRF.out, if_pos hcv])
    clear hcv HRF
    go_wp2_with fail
    go_loopw [9] (fun q wr => ∃ k : Nat, k ≤ i ∧ q = .int .i64 k ∧ (∀ y ∈ (ps.take i).take k, ¬ y.name = x.name) ∧ Kept w4 wr) (fun q wr => i - (intOf q).toNat)
    case atStart => exact ⟨0, Nat.zero_le _, rfl, by simp, Kept.refl _⟩
    case round =>
     obtain ⟨k, hk, rfl, hno, hk5⟩ := hrel
     have HNO := Lib.hid hno
     have HK5 := Lib.hid hk5
     have f2 := (B44.out.kept hk5).cell 2
     have f0 := (B74.out.kept hk5).cell 0
     simp only [List.getElem?_toArray, List.getElem?_cons_zero, List.getElem?_cons_succ] at f0 f2
     clear hno hk5 e0 e1
     by_cases hki : k < i
     ·have hkiI : (k : Int) < (i : Int) := by omega
      have hkl : k < ps.length := by omega
      have hklI : (k : Int) < (ps.length : Int) := by omega
      have hy : ps[k]? = some ps[k] := List.getElem?_eq_getElem hkl
      obtain ⟨yb, yo, hye, yc⟩ := HA.out _ _ hy
      injection hye with hye
      injection hye with hye1 hye2 _
      subst hye1 hye2
      generalize ps[k] = y at hy yc
      have g0 := (HW.out.trans (HK44.out.trans HK5.out)).cell yc.1
      have HY := Lib.hid (show (ps.take i)[k]? = some y by rw [List.getElem?_take, if_pos hki]; exact hy)
      clear hy yc
      by_cases hn : y.name = x.name
      ·have hnb := beq_yes hn
       obtain rfl : ans = 8 := by
        rw [HR2.out, if_pos]
        rw [List.any_eq_true]
        exact ⟨y, List.mem_of_getElem? HY.out, decide_eq_true hn⟩
       clear hn
       go_wp2_with fail
       go_still (by kernel_rfl)
       go_wp2_with fail
       go_ret
       exact ⟨rfl, (HK44.out.trans HK5.out).drew⟩
      ·have hnb := beq_no hn
       have HM := Lib.hid (take_not HNO.out HY.out hn)
       clear hn
       go_wp2_with fail
       go_still (by kernel_rfl)
       go_wp2_with fail
       go_roundw
       case rel => exact ⟨k + 1, by omega, by go_num, HM.out, HK5.out.drew⟩
       case measure => simp [intOf]; omega
     ·have hkiI : ¬ (k : Int) < (i : Int) := by omega
      obtain rfl : k = i := by omega
      have HNA := Lib.hid (any_take (l := ps) (i := k) (s := x.name) (by have := HNO.out; rwa [List.take_of_length_le (by simp; omega)] at this))
      have HR3 := Lib.hid (show ans = _ by rw [HR2.out, HNA.out])
      have HKF := Lib.hid (HK44.out.trans HK5.out)
      have B45 := Lib.hid (B44.out.kept HK5.out)
      have B75 := Lib.hid (B74.out.kept HK5.out)
      have c0 := B45.out.cell 0
      have c1 := B45.out.cell 1
      have c2 := B45.out.cell 2
      have c3 := B45.out.cell 3
      simp only [List.getElem?_toArray, List.getElem?_cons_zero, List.getElem?_cons_succ] at c0 c1 c2 c3
      cases hin : Tab.inN (Tab.aboveN t sp false) x.name with
      | true =>
       obtain rfl : ans = 8 := by rw [HR3.out, hin]; rfl
       have v00 := B75.out.cell 0
       simp only [List.getElem?_toArray, List.getElem?_cons_zero, List.getElem?_cons_succ] at v00
       go_wp2_with fail
       refine wp_region_held_drew (S := (fun W => W.cell? ⟨w.heap.size, 0, none⟩ = some (.string an) ∧ W.cell? ⟨w.heap.size, 1, none⟩ = some (.string sp) ∧ W.cell? ⟨w.heap.size, 2, none⟩ = some (.slice (some ⟨xb, xo, none⟩) ps.length pc) ∧ W.cell? ⟨w.heap.size, 3, none⟩ = some (.slice ma mn mc) ∧ W.cell? ⟨w.heap.size + 1, 0, none⟩ = some (.string x.name) ∧ Kept wr W)) (by kernel_rfl) ⟨(Kept.refl wr).drew.cell c0, (Kept.refl wr).drew.cell c1, (Kept.refl wr).drew.cell c2, (Kept.refl wr).drew.cell c3, (Kept.refl wr).drew.cell v00, (Kept.refl wr).drew⟩ (fun hHeld0 => ?_)
       refine nkH 0 ?_
       refine nkH 1 ?_
       refine nkH 3 ?_
       refine nkH 4 ?_
       refine rdH [2] ?_
       refine AllReadyH.cons rfl (fun K hK => ?_) AllReadyH.nil
       go_simp
       go_at_call 152
       refine (HAB.out false _ HKF.out.drew).mono ?_
       rintro e w5 ⟨v5, rfl, hr, k5⟩
       have hIN := rin_c _ _ x.name w5 (owns_txt hr)
       rw [show inL (Tab.aboveN t sp false) x.name = true from hin] at hIN
       have HIN := Lib.hid hIN
       have k6 := (Kept.refl wr).drew.trans k5
       obtain ⟨va5, vc5, rfl⟩ := owns_slice_n hr
       clear hr hIN
       refine hK.out _ _ ⟨k6.cell c0, k6.cell c1, k6.cell c2, k6.cell c3, k6.cell v00, k6⟩ (fun hHeld1 => ?_)
       clear hK K
       (try simp only [Act.put, List.setIfInBounds_toArray, List.set_cons_zero, List.set_cons_succ])
       refine rdH [5] ?_
       refine AllReadyH.cons rfl (fun K hK => ?_) AllReadyH.nil
       go_simp
       go_at_call 91
       refine HIN.out.mono ?_
       rintro e w6 ⟨rfl, hw6⟩
       subst hw6
       refine hK.out _ _ hHeld1 (fun hHeld2 => ?_)
       clear hK K
       (try simp only [Act.put, List.setIfInBounds_toArray, List.set_cons_zero, List.set_cons_succ])
       refine nkH 6 ?_
       refine nkS 7 ?_
       refine nkS 8 ?_
       refine nkS 9 ?_
       refine nkS 10 ?_
       refine nkS 11 ?_
       refine nkS 12 ?_
       refine nkH 13 ?_
       refine wpAnyH_done (by kernel_rfl) ?_ _
       have HK6 := Lib.hid (HKF.out.trans k6)
       clear hHeld0 hHeld1 hHeld2 hin
       go_wp2_with fail
       go_ret
       exact ⟨rfl, HK6.out⟩
      | false =>
       have HR4 := Lib.hid (show ans = _ by rw [HR3.out, hin])
       cases hin2 : Tab.inN (Tab.aboveN t sp true) x.name with
       | true =>
        obtain rfl : ans = 8 := by rw [HR4.out, hin2]; rfl
        have v00 := B75.out.cell 0
        simp only [List.getElem?_toArray, List.getElem?_cons_zero, List.getElem?_cons_succ] at v00
        go_wp2_with fail
        refine wp_region_held_drew (S := (fun W => W.cell? ⟨w.heap.size, 0, none⟩ = some (.string an) ∧ W.cell? ⟨w.heap.size, 1, none⟩ = some (.string sp) ∧ W.cell? ⟨w.heap.size, 2, none⟩ = some (.slice (some ⟨xb, xo, none⟩) ps.length pc) ∧ W.cell? ⟨w.heap.size, 3, none⟩ = some (.slice ma mn mc) ∧ W.cell? ⟨w.heap.size + 1, 0, none⟩ = some (.string x.name) ∧ Kept wr W)) (by kernel_rfl) ⟨(Kept.refl wr).drew.cell c0, (Kept.refl wr).drew.cell c1, (Kept.refl wr).drew.cell c2, (Kept.refl wr).drew.cell c3, (Kept.refl wr).drew.cell v00, (Kept.refl wr).drew⟩ (fun hHeld0 => ?_)
        refine nkH 0 ?_
        refine nkH 1 ?_
        refine nkH 3 ?_
        refine nkH 4 ?_
        refine rdH [2] ?_
        refine AllReadyH.cons rfl (fun K hK => ?_) AllReadyH.nil
        go_simp
        go_at_call 152
        refine (HAB.out false _ HKF.out.drew).mono ?_
        rintro e w5 ⟨v5, rfl, hr, k5⟩
        have hIN := rin_c _ _ x.name w5 (owns_txt hr)
        rw [show inL (Tab.aboveN t sp false) x.name = false from hin] at hIN
        have HIN := Lib.hid hIN
        have k6 := (Kept.refl wr).drew.trans k5
        obtain ⟨va5, vc5, rfl⟩ := owns_slice_n hr
        clear hr hIN
        refine hK.out _ _ ⟨k6.cell c0, k6.cell c1, k6.cell c2, k6.cell c3, k6.cell v00, k6⟩ (fun hHeld1 => ?_)
        clear hK K
        (try simp only [Act.put, List.setIfInBounds_toArray, List.set_cons_zero, List.set_cons_succ])
        refine rdH [5] ?_
        refine AllReadyH.cons rfl (fun K hK => ?_) AllReadyH.nil
        go_simp
        go_at_call 91
        refine HIN.out.mono ?_
        rintro e w6 ⟨rfl, hw6⟩
        subst hw6
        refine hK.out _ _ hHeld1 (fun hHeld2 => ?_)
        clear hK K
        (try simp only [Act.put, List.setIfInBounds_toArray, List.set_cons_zero, List.set_cons_succ])
        refine nkH 6 ?_
        refine nkH 7 ?_
        refine nkH 8 ?_
        refine nkH 10 ?_
        refine nkH 11 ?_
        refine rdH [9] ?_
        refine AllReadyH.cons rfl (fun K hK => ?_) AllReadyH.nil
        go_simp
        go_at_call 152
        refine (HAB.out true _ (HKF.out.trans k6)).mono ?_
        rintro e w7 ⟨v7, rfl, hr, k7⟩
        have hIN := rin_c _ _ x.name w7 (owns_txt hr)
        rw [show inL (Tab.aboveN t sp true) x.name = true from hin2] at hIN
        have HIN2 := Lib.hid hIN
        have k8 := k6.trans k7
        obtain ⟨va7, vc7, rfl⟩ := owns_slice_n hr
        clear hr hIN
        refine hK.out _ _ ⟨k8.cell c0, k8.cell c1, k8.cell c2, k8.cell c3, k8.cell v00, k8⟩ (fun hHeld3 => ?_)
        clear hK K
        (try simp only [Act.put, List.setIfInBounds_toArray, List.set_cons_zero, List.set_cons_succ])
        refine rdH [12] ?_
        refine AllReadyH.cons rfl (fun K hK => ?_) AllReadyH.nil
        go_simp
        go_at_call 91
        refine HIN2.out.mono ?_
        rintro e w9 ⟨rfl, hw9⟩
        subst hw9
        refine hK.out _ _ hHeld3 (fun hHeld4 => ?_)
        clear hK K
        (try simp only [Act.put, List.setIfInBounds_toArray, List.set_cons_zero, List.set_cons_succ])
        refine nkH 13 ?_
        refine wpAnyH_done (by kernel_rfl) ?_ _
        have HK8 := Lib.hid (HKF.out.trans k8)
        clear hHeld0 hHeld1 hHeld2 hHeld3 hHeld4 hin hin2
        go_wp2_with fail
        go_ret
        exact ⟨rfl, HK8.out⟩
       | false =>
        obtain rfl : ans = 0 := by rw [HR4.out, hin2]; rfl
        have v00 := B75.out.cell 0
        simp only [List.getElem?_toArray, List.getElem?_cons_zero, List.getElem?_cons_succ] at v00
        go_wp2_with fail
        refine wp_region_held_drew (S := (fun W => W.cell? ⟨w.heap.size, 0, none⟩ = some (.string an) ∧ W.cell? ⟨w.heap.size, 1, none⟩ = some (.string sp) ∧ W.cell? ⟨w.heap.size, 2, none⟩ = some (.slice (some ⟨xb, xo, none⟩) ps.length pc) ∧ W.cell? ⟨w.heap.size, 3, none⟩ = some (.slice ma mn mc) ∧ W.cell? ⟨w.heap.size + 1, 0, none⟩ = some (.string x.name) ∧ Kept wr W)) (by kernel_rfl) ⟨(Kept.refl wr).drew.cell c0, (Kept.refl wr).drew.cell c1, (Kept.refl wr).drew.cell c2, (Kept.refl wr).drew.cell c3, (Kept.refl wr).drew.cell v00, (Kept.refl wr).drew⟩ (fun hHeld0 => ?_)
        refine nkH 0 ?_
        refine nkH 1 ?_
        refine nkH 3 ?_
        refine nkH 4 ?_
        refine rdH [2] ?_
        refine AllReadyH.cons rfl (fun K hK => ?_) AllReadyH.nil
        go_simp
        go_at_call 152
        refine (HAB.out false _ HKF.out.drew).mono ?_
        rintro e w5 ⟨v5, rfl, hr, k5⟩
        have hIN := rin_c _ _ x.name w5 (owns_txt hr)
        rw [show inL (Tab.aboveN t sp false) x.name = false from hin] at hIN
        have HIN := Lib.hid hIN
        have k6 := (Kept.refl wr).drew.trans k5
        obtain ⟨va5, vc5, rfl⟩ := owns_slice_n hr
        clear hr hIN
        refine hK.out _ _ ⟨k6.cell c0, k6.cell c1, k6.cell c2, k6.cell c3, k6.cell v00, k6⟩ (fun hHeld1 => ?_)
        clear hK K
        (try simp only [Act.put, List.setIfInBounds_toArray, List.set_cons_zero, List.set_cons_succ])
        refine rdH [5] ?_
        refine AllReadyH.cons rfl (fun K hK => ?_) AllReadyH.nil
        go_simp
        go_at_call 91
        refine HIN.out.mono ?_
        rintro e w6 ⟨rfl, hw6⟩
        subst hw6
        refine hK.out _ _ hHeld1 (fun hHeld2 => ?_)
        clear hK K
        (try simp only [Act.put, List.setIfInBounds_toArray, List.set_cons_zero, List.set_cons_succ])
        refine nkH 6 ?_
        refine nkH 7 ?_
        refine nkH 8 ?_
        refine nkH 10 ?_
        refine nkH 11 ?_
        refine rdH [9] ?_
        refine AllReadyH.cons rfl (fun K hK => ?_) AllReadyH.nil
        go_simp
        go_at_call 152
        refine (HAB.out true _ (HKF.out.trans k6)).mono ?_
        rintro e w7 ⟨v7, rfl, hr, k7⟩
        have hIN := rin_c _ _ x.name w7 (owns_txt hr)
        rw [show inL (Tab.aboveN t sp true) x.name = false from hin2] at hIN
        have HIN2 := Lib.hid hIN
        have k8 := k6.trans k7
        obtain ⟨va7, vc7, rfl⟩ := owns_slice_n hr
        clear hr hIN
        refine hK.out _ _ ⟨k8.cell c0, k8.cell c1, k8.cell c2, k8.cell c3, k8.cell v00, k8⟩ (fun hHeld3 => ?_)
        clear hK K
        (try simp only [Act.put, List.setIfInBounds_toArray, List.set_cons_zero, List.set_cons_succ])
        refine rdH [12] ?_
        refine AllReadyH.cons rfl (fun K hK => ?_) AllReadyH.nil
        go_simp
        go_at_call 91
        refine HIN2.out.mono ?_
        rintro e w9 ⟨rfl, hw9⟩
        subst hw9
        refine hK.out _ _ hHeld3 (fun hHeld4 => ?_)
        clear hK K
        (try simp only [Act.put, List.setIfInBounds_toArray, List.set_cons_zero, List.set_cons_succ])
        refine nkH 13 ?_
        refine wpAnyH_done (by kernel_rfl) ?_ _
        have HK8 := Lib.hid (HKF.out.trans k8)
        clear hHeld0 hHeld1 hHeld2 hHeld3 hHeld4 hin hin2
        go_wp2_with fail
        go_ret
        exact ⟨rfl, HK8.out⟩
   ·have hc0b : (ct == 0) = false := by simpa using hc0
    have HRE := Lib.hid (show ans = ct by rw [HRF.out, if_neg (by rw [HCE.out]; exact hc0), HCE.out])
    clear hc0
    go_wp2_with fail
    go_ret
    exact ⟨by rw [HRE.out]; rfl, HK44.out⟩
end Go.Proofs.YtjdkegfckkbpeaaGreatDoor
