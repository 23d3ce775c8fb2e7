/- The document's own answers about tables (chaperonref05): method. -/
import Derived.Test.YtjdkegfckkbpeaaGreatDoorQRfr
import Derived.Test.YtjdkegfckkbpeaaGreatDoorQRpl
set_option linter.unusedSimpArgs false
set_option linter.unusedVariables false
set_option maxRecDepth 100000
namespace Go.Proofs.YtjdkegfckkbpeaaGreatDoor
open Go.ChangeShapes Go.WideShapes Go.ChangeAt Go.RowKit
theorem any_takeM {l : List Tab.M} {i : Nat} {s : ByteArray} (h : ∀ y ∈ l.take i, ¬ y.name = s) : ((l.take i).any fun x => decide (x.name = s)) = false := by
 rw [← Bool.not_eq_true, List.any_eq_true]
 rintro ⟨y, hy, e⟩
 exact h y hy (of_decide_eq_true e)
set_option maxHeartbeats 32000000 in
theorem rmethod1_c (t : List Tab.C) (a : Option Addr) (cp : Nat) (C : Tab.C) (fv mv : Value) (i : Nat) (w0 w : World) (hw : Kept w0 w) (h : TabAt w0 (.slice a t.length cp) t) (hS : Small t) (hf : Row 2 VarAt w0 fv C.fields) (hm : Row 3 SigAt w0 mv C.methods) (hi : i < C.methods.length) :
  Calls Tryz.prog 106 #[.slice a t.length cp, .agg #[.string C.name, .string C.super, fv, mv], .int .i64 i] w fun e w' => e = .returned (.int .i64 (Tab.rMethod t C i)) ∧ Kept w w' := by
 obtain ⟨fa, fc, rfl, f1, f2, f3⟩ := hf
 obtain ⟨ma, mc, rfl, m1, m2, m3⟩ := hm
 unfold maxLen at f2 m2
 have HF := Lib.hid f3
 have HM := Lib.hid m3
 have HW := Lib.hid hw
 have HTY := Lib.hid (fun s W (k : Kept w W) => rtyped_c t (.slice a t.length cp) s W (tab_kept h (hw.trans k)))
 have HPS := Lib.hid (fun (M : Tab.M) (vm : Value) (W : World) (k : Kept w W) (hm : Row 2 VarAt w0 vm M.params) => rparams_c t a cp M vm w0 W (hw.trans k) h hm)
 have HAB := Lib.hid (fun (W : World) (k : Kept w W) => rabove_c false t a cp C.name C.super (.slice fa C.fields.length fc) (.slice ma C.methods.length mc) W (tab_kept h (hw.trans k)) hS ⟨_, _, _, rfl⟩ ⟨_, _, _, rfl⟩)
 have HME := Lib.hid (fun (nm : ByteArray) (W : World) (k : Kept w W) => rmeth_c t a cp C.super nm W (tab_kept h (hw.trans k)) hS)
 clear f3 m3 hw h hS
 have hx : C.methods[i]? = some C.methods[i] := List.getElem?_eq_getElem hi
 have HRF := Lib.hid (show Tab.rMethod t C i = if Tab.chkSig t C.methods[i] = 0 then (if ((C.methods.take i).any fun x => decide (x.name = C.methods[i].name)) = true then 8 else if (C.fields.any fun x => decide (x.name = C.methods[i].name)) = true then 8 else if Tab.inN (Tab.aboveN t C.super false) C.methods[i].name = true then 8 else Tab.rOver t C.super C.methods[i]) else Tab.chkSig t C.methods[i] by
  unfold Tab.rMethod
  rw [hx])
 generalize Tab.rMethod t C i = ans at HRF ⊢
 generalize C.methods[i] = x at hx HRF
 obtain ⟨an, han⟩ : ∃ x, C.name = x := ⟨_, rfl⟩
 obtain ⟨sp, har⟩ : ∃ x, C.super = x := ⟨_, rfl⟩
 obtain ⟨ps, hps⟩ : ∃ x, C.fields = x := ⟨_, rfl⟩
 obtain ⟨ms, hms⟩ : ∃ x, C.methods = x := ⟨_, rfl⟩
 rw [hps] at f1 HF HAB HRF ⊢
 rw [hms] at m1 HM HAB hi hx HRF ⊢
 rw [han] at HAB ⊢
 rw [har] at HAB HME HRF ⊢
 clear han har hps hms
 have hiI : (i : Int) < (ms.length : Int) := by omega
 obtain ⟨xb, xo, rfl, xc⟩ := HM.out _ _ hx
 have HX := Lib.hid hx
 obtain ⟨y0, ⟨pv, y1, prow⟩, y2, z0, z2⟩ := xc
 have HPR := Lib.hid prow
 obtain ⟨pa, pc, rfl, p1, p2, p3⟩ := prow
 unfold maxLen at z0 z2
 generalize hpn : x.params.length = pn at y1 HPR p1
 clear hpn p1 p2 p3
 have B4 := Lib.hid (Blk.new w 44 #[.string an, .string sp, .slice fa ps.length fc, .slice (some ⟨xb, xo, none⟩) ms.length mc])
 have HK4 := Lib.hid ((Kept.refl w).alloc (.cells #[.string an, .string sp, .slice fa ps.length fc, .slice (some ⟨xb, xo, none⟩) ms.length mc] 44))
 have e0 := (HW.out.trans HK4.out).cell y0
 have e1 := (HW.out.trans HK4.out).cell y1
 have e2 := (HW.out.trans HK4.out).cell y2
 have hbx := (B4.out.alloc (.cells #[.string x.name, .slice pa pn pc, .string x.res] 47))
 have B4' := Lib.hid hbx
 have hb7 := Blk.new (w.alloc (.cells #[.string an, .string sp, .slice fa ps.length fc, .slice (some ⟨xb, xo, none⟩) ms.length mc] 44)) 47 #[.string x.name, .slice pa pn pc, .string x.res]
 rw [World.size_alloc] at hb7
 have B7 := Lib.hid hb7
 have HK7 := Lib.hid (HK4.out.alloc (.cells #[.string x.name, .slice pa pn pc, .string x.res] 47))
 have HNM := Lib.hid (fun W => nameR_c x.name W (by omega))
 have HPX := Lib.hid (fun W k => HPS.out x _ W k HPR.out)
 have HTD := Lib.hid (fun W k => HTY.out x.res W k (by omega))
 have HCS := Lib.hid (show Tab.chkSig t x = if Wrd.name x.name = true then (if Tab.chkPs t [] x.params = 0 then Tab.chkType t x.res else Tab.chkPs t [] x.params) else 5 from rfl)
 generalize Tab.chkSig t x = cs at HCS HRF
 generalize Tab.chkType t x.res = ct at HCS HTD
 generalize Tab.chkPs t [] x.params = cq at HCS HPX
 clear hx y0 y1 y2 z0 z2 hbx hb7 HPS HTY
 cases hnm : Wrd.name x.name with
 | false =>
  rw [hnm] at HNM HCS
  obtain rfl : cs = 5 := HCS.out
  obtain rfl : ans = 5 := HRF.out
  clear hnm
  go_enter Tryz.func106, Tryz.ntmps106
  go_wp2_with fail
  refine (HNM.out _).mono ?_
  rintro e w2 ⟨rfl, k2⟩
  have HK2 := Lib.hid (HK7.out.trans k2)
  clear k2
  go_wp2_with fail
  go_ret
  exact ⟨rfl, HK2.out⟩
 | true =>
  rw [hnm] at HNM
  have HCT := Lib.hid (show cs = if cq = 0 then ct else cq by rw [HCS.out, hnm]; rfl)
  clear hnm HCS
  go_enter Tryz.func106, Tryz.ntmps106
  go_wp2_with fail
  refine (HNM.out _).mono ?_
  rintro e w2 ⟨rfl, k2⟩
  have HK2 := Lib.hid (HK7.out.trans k2)
  have B42 := Lib.hid (B4'.out.kept k2)
  have b72 := B7.out.kept k2
  have r0 := b72.cell 0
  have r1 := b72.cell 1
  have r2 := b72.cell 2
  simp only [List.getElem?_toArray, List.getElem?_cons_zero, List.getElem?_cons_succ] at r0 r1 r2
  have B72 := Lib.hid b72
  clear k2 b72
  go_wp2_with fail
  refine (HPX.out w2 HK2.out).mono ?_
  rintro e w3 ⟨rfl, k3⟩
  have HK3 := Lib.hid (HK2.out.trans k3)
  have B43 := Lib.hid (B42.out.kept k3)
  have b73 := B72.out.kept k3
  have s2 := b73.cell 2
  simp only [List.getElem?_toArray, List.getElem?_cons_zero, List.getElem?_cons_succ] at s2
  have B73 := Lib.hid b73
  clear k3 b73 r0 r1 r2
  by_cases hq0 : cq = 0
  ·subst hq0
   have HCE := Lib.hid (show cs = ct by rw [HCT.out, if_pos rfl])
   go_wp2_with fail
   refine (HTD.out w3 HK3.out).mono ?_
   rintro e w4 ⟨rfl, k4⟩
   have HK44 := Lib.hid (HK3.out.trans k4)
   have B44 := Lib.hid (B43.out.kept k4)
   have B74 := Lib.hid (B73.out.kept k4)
   clear k4 s2
   by_cases hc0 : ct = 0
   ·subst hc0
    have HR2 := Lib.hid (show ans = _ by rw [HRF.out, if_pos HCE.out])
    clear HRF
    go_wp2_with fail
    go_loopw [9] (fun q wr => ∃ k : Nat, k ≤ i ∧ q = .int .i64 k ∧ (∀ y ∈ (ms.take i).take k, ¬ y.name = x.name) ∧ Kept w4 wr) (fun q wr => i - (intOf q).toNat)
    case atStart => exact ⟨0, Nat.zero_le _, rfl, by simp, Kept.refl _⟩
    case round =>
     obtain ⟨k, hk, rfl, hno, hk5⟩ := hrel
     obtain ⟨wo, rfl⟩ : ∃ wo, wo = wr := ⟨_, rfl⟩
     have HNO := Lib.hid hno
     have HK5 := Lib.hid hk5
     have f3 := (B44.out.kept hk5).cell 3
     have f0 := (B74.out.kept hk5).cell 0
     simp only [List.getElem?_toArray, List.getElem?_cons_zero, List.getElem?_cons_succ] at f0 f3
     clear hno hk5 e0 e1 e2
     by_cases hki : k < i
     ·have hkiI : (k : Int) < (i : Int) := by omega
      have hkl : k < ms.length := by omega
      have hklI : (k : Int) < (ms.length : Int) := by omega
      have hy : ms[k]? = some ms[k] := List.getElem?_eq_getElem hkl
      obtain ⟨yb, yo, hye, yc⟩ := HM.out _ _ hy
      injection hye with hye
      injection hye with hye1 hye2 _
      subst hye1 hye2
      generalize ms[k] = y at hy yc
      have g0 := (HW.out.trans (HK44.out.trans HK5.out)).cell yc.1
      have HY := Lib.hid (show (ms.take i)[k]? = some y by rw [List.getElem?_take, if_pos hki]; exact hy)
      clear hy yc
      by_cases hn : y.name = x.name
      ·have hnb := beq_yes hn
       obtain rfl : ans = 8 := by
        rw [HR2.out, if_pos]
        rw [List.any_eq_true]
        exact ⟨y, List.mem_of_getElem? HY.out, decide_eq_true hn⟩
       clear hn
       go_wp2_with fail
       go_still (by kernel_rfl)
       go_wp2_with fail
       go_ret
       exact ⟨rfl, (HK44.out.trans HK5.out).drew⟩
      ·have hnb := beq_no hn
       have HMN := Lib.hid (take_not HNO.out HY.out hn)
       clear hn
       go_wp2_with fail
       go_still (by kernel_rfl)
       go_wp2_with fail
       go_roundw
       case rel => exact ⟨k + 1, by omega, by go_num, HMN.out, HK5.out.drew⟩
       case measure => simp [intOf]; omega
     ·have hkiI : ¬ (k : Int) < (i : Int) := by omega
      obtain rfl : k = i := by omega
      have HNA := Lib.hid (any_takeM (l := ms) (i := k) (s := x.name) (by have := HNO.out; rwa [List.take_of_length_le (by simp; omega)] at this))
      have HR3 := Lib.hid (show ans = _ by rw [HR2.out, HNA.out, if_neg (by simp)])
      clear f0 f3
      go_wp2_with fail
      go_loopw [10] (fun q wr => ∃ j : Nat, j ≤ ps.length ∧ q = .int .i64 j ∧ (∀ y ∈ ps.take j, ¬ y.name = x.name) ∧ Kept wo wr) (fun q wr => ps.length - (intOf q).toNat)
      case atStart => exact ⟨0, Nat.zero_le _, rfl, by simp, Kept.refl _⟩
      case round =>
       obtain ⟨j, hj, rfl, hno, hk6⟩ := hrel
       have HNO6 := Lib.hid hno
       have HK6 := Lib.hid hk6
       have HKF := Lib.hid (HK44.out.trans (HK5.out.trans hk6))
       have B46 := Lib.hid ((B44.out.kept HK5.out).kept hk6)
       have B76 := Lib.hid ((B74.out.kept HK5.out).kept hk6)
       have c0 := B46.out.cell 0
       have c1 := B46.out.cell 1
       have c2 := B46.out.cell 2
       have c3 := B46.out.cell 3
       have d0 := B76.out.cell 0
       have d1 := B76.out.cell 1
       have d2 := B76.out.cell 2
       simp only [List.getElem?_toArray, List.getElem?_cons_zero, List.getElem?_cons_succ] at c0 c1 c2 c3 d0 d1 d2
       clear hno hk6
       by_cases hjl : j < ps.length
       ·have hjlI : (j : Int) < (ps.length : Int) := by omega
        have hy : ps[j]? = some ps[j] := List.getElem?_eq_getElem hjl
        obtain ⟨yb, yo, rfl, yc⟩ := HF.out _ _ hy
        generalize ps[j] = y at hy yc
        have g0 := (HW.out.trans HKF.out).cell yc.1
        have HY := Lib.hid hy
        clear hy yc
        by_cases hn : y.name = x.name
        ·have hnb := beq_yes hn
         obtain rfl : ans = 8 := by
          rw [HR3.out, if_pos]
          rw [List.any_eq_true]
          exact ⟨y, List.mem_of_getElem? HY.out, decide_eq_true hn⟩
         clear hn
         go_wp2_with fail
         go_still (by kernel_rfl)
         go_wp2_with fail
         go_ret
         exact ⟨rfl, HKF.out.drew⟩
        ·have hnb := beq_no hn
         have HMN := Lib.hid (take_not HNO6.out HY.out hn)
         clear hn
         go_wp2_with fail
         go_still (by kernel_rfl)
         go_wp2_with fail
         go_roundw
         case rel => exact ⟨j + 1, by omega, by go_num, HMN.out, HK6.out.drew⟩
         case measure => simp [intOf]; omega
       ·have hjlI : ¬ (j : Int) < (ps.length : Int) := by omega
        obtain rfl : j = ps.length := by omega
        have HNB := Lib.hid (any_take (l := ps) (i := ps.length) (s := x.name) HNO6.out)
        have HR4 := Lib.hid (show ans = if Tab.inN (Tab.aboveN t sp false) x.name = true then 8 else Tab.rOver t sp x by rw [HR3.out, if_neg]; have := HNB.out; rw [List.take_length] at this; rw [this]; simp)
        have HAA := Lib.hid (HAB.out wr.drew HKF.out.drew)
        clear HAB
        go_wp2_with fail
        go_region_with (first | (go_at_call 152; refine HAA.out.mono ?_; rintro e w8 ⟨v8, rfl, hr8, k8⟩; have HIN := Lib.hid (rin_c _ _ x.name w8 (owns_txt hr8)); have HK8 := Lib.hid (HKF.out.drew.trans k8); have q0 := k8.cell (B76.out.drew.cell 0); have q1 := k8.cell (B76.out.drew.cell 1); have q2 := k8.cell (B76.out.drew.cell 2); have q3 := k8.cell (B46.out.drew.cell 1); have B78 := Lib.hid (B76.out.drew.kept k8); obtain ⟨va8, vc8, rfl⟩ := owns_slice_n hr8; clear hr8 k8) | (go_at_call 91; refine HIN.out.mono ?_; rintro e w9 ⟨rfl, rfl⟩))
        all_goals
         cases hin : inL (Tab.aboveN t sp false) x.name with
         | true =>
          obtain rfl : ans = 8 := by rw [HR4.out, if_pos (show Tab.inN (Tab.aboveN t sp false) x.name = true from hin)]
          go_wp2_with fail
          go_ret
          exact ⟨rfl, HK8.out⟩
         | false =>
          have HR5 := Lib.hid (show ans = Tab.rOver t sp x by rw [HR4.out, show Tab.inN (Tab.aboveN t sp false) x.name = false from hin]; rfl)
          have HMM := Lib.hid (HME.out x.name w9 HK8.out)
          clear hin
          cases hme : Tab.method t sp x.name with
          | none =>
           obtain rfl : ans = 0 := by rw [HR5.out]; unfold Tab.rOver; rw [hme]
           have HMM2 := Lib.hid HMM.out
           unfold MthR at HMM2
           rw [hme] at HMM2
           clear hme HMM
           go_wp2_with fail
           refine HMM2.out.mono ?_
           rintro e wm ⟨rfl, km⟩
           have HKm := Lib.hid (HK8.out.trans km)
           clear km
           go_wp2_with fail
           go_ret
           exact ⟨rfl, HKm.out.alloc _⟩
          | some oc =>
           obtain ⟨o, cn⟩ := oc
           have HR6 := Lib.hid (show ans = if Tab.sameSig o x = true then 0 else 10 by rw [HR5.out]; unfold Tab.rOver; rw [hme])
           have HMM2 := Lib.hid HMM.out
           unfold MthR at HMM2
           rw [hme] at HMM2
           clear hme HMM
           go_wp2_with fail
           refine HMM2.out.mono ?_
           rintro e wm ⟨⟨pv2, rfl, hrow2⟩, km⟩
           have HRO := Lib.hid hrow2
           obtain ⟨pa2, pc2, rfl, _⟩ := hrow2
           generalize hol : o.params.length = ol at HRO
           have HKm := Lib.hid (HK8.out.trans km)
           have bm := (B78.out.kept km).alloc (.cells #[.string o.name, .slice pa2 ol pc2, .string o.res] 47)
           have u0 := bm.cell 0
           have u1 := bm.cell 1
           have u2 := bm.cell 2
           simp only [List.getElem?_toArray, List.getElem?_cons_zero, List.getElem?_cons_succ] at u0 u1 u2
           have HSA := Lib.hid (rsame_c o x (.slice pa2 ol pc2) (.slice pa pn pc) w9 (wm.alloc (.cells #[.string o.name, .slice pa2 ol pc2, .string o.res] 47)) (km.alloc _) HRO.out (vars_kept HPR.out (HW.out.trans HK8.out)))
           clear km bm hol HMM2
           go_wp2_with fail
           refine HSA.out.mono ?_
           rintro e wz ⟨rfl, kz⟩
           have HKz := Lib.hid ((HKm.out.alloc (.cells #[.string o.name, .slice pa2 ol pc2, .string o.res] 47)).trans kz)
           clear kz u0 u1 u2
           cases hss : Tab.sameSig o x with
           | true =>
            obtain rfl : ans = 0 := by rw [HR6.out, if_pos hss]
            go_wp2_with fail
            go_ret
            exact ⟨rfl, HKz.out⟩
           | false =>
            obtain rfl : ans = 10 := by rw [HR6.out, if_neg (by rw [hss]; simp)]
            go_wp2_with fail
            go_ret
            exact ⟨rfl, HKz.out⟩
   ·have hc0b : (ct == 0) = false := by simpa using hc0
    have HRE := Lib.hid (show ans = ct by rw [HRF.out, HCE.out, if_neg hc0])
    clear hc0
    go_wp2_with fail
    go_ret
    exact ⟨by rw [HRE.out]; rfl, HK44.out⟩
  ·have hq0b : (cq == 0) = false := by simpa using hq0
   have HRE := Lib.hid (show ans = cq by rw [HRF.out, HCT.out, if_neg hq0, if_neg hq0])
   clear hq0
   go_wp2_with fail
   go_ret
   exact ⟨by rw [HRE.out]; rfl, HK3.out⟩
theorem firstN_at {f : Nat → Int} {k : Nat} (h : ¬ f k = 0) : ∀ (n a : Nat), a ≤ k → k < a + n → (∀ j, a ≤ j → j < k → f j = 0) → Tab.firstN f a n = f k
 | 0, a, h1, h2, _ => by omega
 | n + 1, a, h1, h2, h3 => by
  unfold Tab.firstN
  by_cases e : a = k
  ·subst e
   rw [if_neg h]
  ·rw [if_pos (h3 a (Nat.le_refl _) (by omega))]
   exact firstN_at h n (a + 1) (by omega) (by omega) fun j hj hk => h3 j (by omega) hk
theorem firstN_all {f : Nat → Int} {n : Nat} (h : ∀ j, j < n → f j = 0) : Tab.firstN f 0 n = 0 := Tab.firstN_zero.2 fun j hj => by rw [Nat.zero_add]; exact h j hj
theorem below_more {f : Nat → Int} {k : Nat} (h : ∀ j, j < k → f j = 0) (hk : f k = 0) : ∀ j, j < k + 1 → f j = 0 := fun j hj => by
 by_cases e : j = k
 ·rw [e]; exact hk
 ·exact h j (by omega)
set_option maxHeartbeats 8000000 in
theorem rown_c (t : List Tab.C) (a : Option Addr) (cp : Nat) (i : Nat) (w : World) (h : TabAt w (.slice a t.length cp) t) (hS : Small t) (hil : i < t.length) :
  Calls Tryz.prog 76 #[.slice a t.length cp, .int .i64 i] w fun e w' => e = .returned (.int .i64 (Tab.rOwn t i)) ∧ Kept w w' := by
 obtain ⟨b, o, rfl, hcl⟩ := Row.cellsC h hil
 have hcp : i ≤ cp := by obtain ⟨_, c', e, h1, h2, _⟩ := h; injection e with _ _ e3; subst e3; omega
 have hilI : (i : Int) < (t.length : Int) := by omega
 have HFL := Lib.hid (fun (fv mv : Value) (k : Nat) (W : World) (kw : Kept w W) (hf : Row 2 VarAt w fv (Tab.nth t i).fields) (hm : ∃ ma mn mc, mv = .slice ma mn mc) (hk : k < (Tab.nth t i).fields.length) => rfield1_c t (some ⟨b, o, none⟩) cp (Tab.nth t i) fv mv k w W kw h hS hf hm hk)
 have HMT := Lib.hid (fun (fv mv : Value) (k : Nat) (W : World) (kw : Kept w W) (hf : Row 2 VarAt w fv (Tab.nth t i).fields) (hm : Row 3 SigAt w mv (Tab.nth t i).methods) (hk : k < (Tab.nth t i).methods.length) => rmethod1_c t (some ⟨b, o, none⟩) cp (Tab.nth t i) fv mv k w W kw h hS hf hm hk)
 have HRO := Lib.hid (show Tab.rOwn t i = if Tab.firstN (Tab.rField t (Tab.nth t i)) 0 (Tab.nth t i).fields.length = 0 then Tab.firstN (Tab.rMethod t (Tab.nth t i)) 0 (Tab.nth t i).methods.length else Tab.firstN (Tab.rField t (Tab.nth t i)) 0 (Tab.nth t i).fields.length from rfl)
 generalize Tab.rOwn t i = ans at HRO ⊢
 generalize Tab.nth t i = c at hcl HFL HMT HRO
 clear h hS
 obtain ⟨c0, c1, ⟨fv, c2, hf⟩, ⟨mv, c3, hm⟩, _⟩ := hcl
 have HFR := Lib.hid hf
 have HMR := Lib.hid hm
 obtain ⟨fa, fc, rfl, f1, f2, _⟩ := hf
 obtain ⟨ma, mc, rfl, m1, m2, _⟩ := hm
 unfold maxLen at f2 m2
 have HFC := Lib.hid (fun (k : Nat) (W : World) (kw : Kept w W) (hk : k < c.fields.length) => HFL.out (.slice fa c.fields.length fc) (.slice ma c.methods.length mc) k W kw HFR.out ⟨_, _, _, rfl⟩ hk)
 have HMC := Lib.hid (fun (k : Nat) (W : World) (kw : Kept w W) (hk : k < c.methods.length) => HMT.out (.slice fa c.fields.length fc) (.slice ma c.methods.length mc) k W kw HFR.out HMR.out hk)
 clear HFL HMT HFR HMR
 generalize c.fields.length = nf at c2 HRO HFC HMC f1
 generalize c.methods.length = nm at c3 HRO HFC HMC m1
 generalize Tab.rField t c = F at HRO HFC
 generalize Tab.rMethod t c = G at HRO HMC
 generalize c.name = cn at c0 HFC HMC
 generalize c.super = cs at c1 HFC HMC
 go_enter Tryz.func76, Tryz.ntmps76
 go_wp2_with fail
 go_loopw [5] (fun q wr => ∃ k : Nat, k ≤ nf ∧ q = .int .i64 k ∧ (∀ j, j < k → F j = 0) ∧ Kept w wr) (fun q wr => nf - (intOf q).toNat)
 case atStart => exact ⟨0, Nat.zero_le _, rfl, (fun j hj => by omega), Kept.refl _⟩
 case round =>
  obtain ⟨k, hk, rfl, hz, hkw⟩ := hrel
  obtain ⟨wo, rfl⟩ : ∃ wo, wo = wr := ⟨_, rfl⟩
  have HZ := Lib.hid hz
  have HK := Lib.hid hkw
  have d0 := hkw.cell c0
  have d1 := hkw.cell c1
  have d2 := hkw.cell c2
  have d3 := hkw.cell c3
  clear hz hkw
  by_cases hlt : k < nf
  ·have hltI : (k : Int) < (nf : Int) := by omega
   have HC := HFC.out k wo HK.out hlt
   obtain ⟨r, hr⟩ : ∃ r, F k = r := ⟨_, rfl⟩
   rw [hr] at HC
   have HCC := Lib.hid HC
   have HR := Lib.hid hr
   clear HC hr c0 c1 c2 c3
   by_cases hr0 : r = 0
   ·subst hr0
    go_wp2_with fail
    refine HCC.out.mono ?_
    rintro e w2 ⟨rfl, k2⟩
    have HK2 := Lib.hid (HK.out.trans k2)
    clear k2
    go_wp2_with fail
    go_roundw
    case rel => exact ⟨k + 1, by omega, by go_num, below_more HZ.out HR.out, HK2.out⟩
    case measure => simp [intOf]; omega
   ·have hrb : (r == 0) = false := by simpa using hr0
    have HE := Lib.hid (show ans = r by
     have e := firstN_at (f := F) (k := k) (by rw [HR.out]; exact hr0) nf 0 (by omega) (by omega) fun j _ hj => HZ.out j hj
     rw [HRO.out, e, HR.out, if_neg hr0])
    clear hr0
    go_wp2_with fail
    refine HCC.out.mono ?_
    rintro e w2 ⟨rfl, k2⟩
    have HK2 := Lib.hid (HK.out.trans k2)
    clear k2
    go_wp2_with fail
    go_ret
    exact ⟨by rw [HE.out]; rfl, HK2.out⟩
  ·have hltI : ¬ (k : Int) < (nf : Int) := by omega
   obtain rfl : k = nf := by omega
   have HR2 := Lib.hid (show ans = Tab.firstN G 0 nm by rw [HRO.out, firstN_all HZ.out, if_pos rfl])
   clear HRO HFC
   go_wp2_with fail
   go_loopw [7] (fun q wr => ∃ k : Nat, k ≤ nm ∧ q = .int .i64 k ∧ (∀ j, j < k → G j = 0) ∧ Kept w wr) (fun q wr => nm - (intOf q).toNat)
   case atStart => exact ⟨0, Nat.zero_le _, rfl, (fun j hj => by omega), HK.out⟩
   case round =>
    obtain ⟨q, hq, rfl, hz, hkw⟩ := hrel
    have HY := Lib.hid hz
    have HQ := Lib.hid hkw
    have e0 := hkw.cell c0
    have e1 := hkw.cell c1
    have e2 := hkw.cell c2
    have e3 := hkw.cell c3
    clear hz hkw
    by_cases hlt2 : q < nm
    ·have hlt2I : (q : Int) < (nm : Int) := by omega
     have HC := HMC.out q wr HQ.out hlt2
     obtain ⟨r, hr⟩ : ∃ r, G q = r := ⟨_, rfl⟩
     rw [hr] at HC
     have HCC := Lib.hid HC
     have HR := Lib.hid hr
     clear HC hr c0 c1 c2 c3 d0 d1 d2 d3
     by_cases hr0 : r = 0
     ·subst hr0
      go_wp2_with fail
      refine HCC.out.mono ?_
      rintro e w2 ⟨rfl, k2⟩
      have HK2 := Lib.hid (HQ.out.trans k2)
      clear k2
      go_wp2_with fail
      go_roundw
      case rel => exact ⟨q + 1, by omega, by go_num, below_more HY.out HR.out, HK2.out⟩
      case measure => simp [intOf]; omega
     ·have hrb : (r == 0) = false := by simpa using hr0
      have HE := Lib.hid (show ans = r by
       have e := firstN_at (f := G) (k := q) (by rw [HR.out]; exact hr0) nm 0 (by omega) (by omega) fun j _ hj => HY.out j hj
       rw [HR2.out, e, HR.out])
      clear hr0
      go_wp2_with fail
      refine HCC.out.mono ?_
      rintro e w2 ⟨rfl, k2⟩
      have HK2 := Lib.hid (HQ.out.trans k2)
      clear k2
      go_wp2_with fail
      go_ret
      exact ⟨by rw [HE.out]; rfl, HK2.out⟩
    ·have hlt2I : ¬ (q : Int) < (nm : Int) := by omega
     obtain rfl : q = nm := by omega
     obtain rfl : ans = 0 := by rw [HR2.out, firstN_all HY.out]
     go_wp2_with fail
     go_ret
     exact ⟨rfl, HQ.out⟩
/-! Check -/
def RG (t : List Tab.C) : Nat → Nat → Int
 | 0 => Tab.chkHead t
 | 1 => Tab.chkSuper t
 | _ => Tab.rOwn t
theorem rck_bad {t : List Tab.C} {k : Nat} {e i : Int} (hl : ¬ 40 < t.length) (hz : ∀ r, r < k → (Tab.chkRound (RG t r) 0 t.length).1 = 0) (hk : Tab.chkRound (RG t k) 0 t.length = (e, i)) (he : ¬ e = 0) (hk3 : k < 3 := by omega) : Tab.rCheck t = (e, i) := by
 unfold Tab.rCheck
 rw [if_neg hl]
 rcases (show k = 0 ∨ k = 1 ∨ k = 2 by omega) with rfl | rfl | rfl
 ·have h0 : Tab.chkRound (Tab.chkHead t) 0 t.length = (e, i) := hk
  rw [h0, if_neg he]
 ·have h0 : (Tab.chkRound (Tab.chkHead t) 0 t.length).1 = 0 := hz 0 (by omega)
  have h1 : Tab.chkRound (Tab.chkSuper t) 0 t.length = (e, i) := hk
  rw [if_pos h0, h1, if_neg he]
 ·have h0 : (Tab.chkRound (Tab.chkHead t) 0 t.length).1 = 0 := hz 0 (by omega)
  have h1 : (Tab.chkRound (Tab.chkSuper t) 0 t.length).1 = 0 := hz 1 (by omega)
  have h2 : Tab.chkRound (Tab.rOwn t) 0 t.length = (e, i) := hk
  rw [if_pos h0, if_pos h1, h2]
theorem rck_ok {t : List Tab.C} (hl : ¬ 40 < t.length) (hz : ∀ r, r < 3 → (Tab.chkRound (RG t r) 0 t.length).1 = 0) : Tab.rCheck t = (0, 0) := by
 refine Tab.rCheck_zero ?_
 unfold Tab.rCheck
 have h0 : (Tab.chkRound (Tab.chkHead t) 0 t.length).1 = 0 := hz 0 (by omega)
 have h1 : (Tab.chkRound (Tab.chkSuper t) 0 t.length).1 = 0 := hz 1 (by omega)
 have h2 : (Tab.chkRound (Tab.rOwn t) 0 t.length).1 = 0 := hz 2 (by omega)
 rw [if_neg hl, if_pos h0, if_pos h1]
 exact h2
theorem rnd_stepR (f : Nat → Int) (i n : Nat) : Tab.chkRound f i (n + 1) = if f i = 0 then Tab.chkRound f (i + 1) n else (f i, (i : Int)) := rfl
def ChkD (w W : World) : Prop := Blk W w.heap.size 30 #[.int .i64 0, .int .i64 0] ∧ Kept w W
theorem ChkD.keep {w A B : World} (h : ChkD w A) (k : Kept A B) : ChkD w B := ⟨h.1.kept k, h.2.trans k⟩
theorem ChkD.set {w W : World} (h : ChkD w W) (e i : Int) : Blk ((W.setCell ⟨w.heap.size, 0, none⟩ (.int .i64 e)).setCell ⟨w.heap.size, 1, none⟩ (.int .i64 i)) w.heap.size 30 #[.int .i64 e, .int .i64 i] ∧ Kept w ((W.setCell ⟨w.heap.size, 0, none⟩ (.int .i64 e)).setCell ⟨w.heap.size, 1, none⟩ (.int .i64 i)) :=
 ⟨(h.1.put 0 _).put 1 _, (h.2.setCell (by simp) _).setCell (by simp) _⟩
set_option maxHeartbeats 8000000 in
theorem rcheck_c (t : List Tab.C) (a : Option Addr) (cp : Nat) (w : World) (h : TabAt w (.slice a t.length cp) t) (hS : Small t) :
  Calls Tryz.prog 43 #[.slice a t.length cp] w fun e w' => e = .returned (.agg #[.int .i64 (Tab.rCheck t).1, .int .i64 (Tab.rCheck t).2]) ∧ Kept w w' := by
 obtain ⟨av, hav⟩ : ∃ av, av = Tab.rCheck t := ⟨_, rfl⟩
 rw [← hav]
 have HAV := Lib.hid hav
 clear hav
 have hb1 := Blk.new w 30 #[.int .i64 0, .int .i64 0]
 have HC0 := Lib.hid (show ChkD w (w.alloc (.cells #[.int .i64 0, .int .i64 0] 30)) from ⟨hb1, (Kept.refl w).alloc _⟩)
 have HH0 := Lib.hid (fun (i : Nat) (wr : World) (hi : i < t.length) (k : Kept w wr) => rnamed_c t a cp i wr (tab_kept h k) hS.len hi)
 have HH1 := Lib.hid (fun (i : Nat) (wr : World) (hi : i < t.length) (k : Kept w wr) => rlined_c t a cp i wr (tab_kept h k) hS.len hi)
 have HH2 := Lib.hid (fun (i : Nat) (wr : World) (hi : i < t.length) (k : Kept w wr) => rown_c t a cp i wr (tab_kept h k) hS hi)
 have hts := hS.len
 clear h hS
 by_cases hl : 40 < t.length
 ·have hlI : (40 : Int) < (t.length : Int) := by omega
  have HG := Lib.hid (show Tab.rCheck t = (12, 40) by unfold Tab.rCheck; rw [if_pos hl])
  have q0 := hb1.cell 0
  have q1 := hb1.cell 1
  have f0 := hb1.frozen 0
  have f1 := hb1.frozen 1
  simp only [List.getElem?_toArray, List.getElem?_cons_zero, List.getElem?_cons_succ] at q0 q1
  clear hl hb1
  go_enter Tryz.func43, Tryz.ntmps43
  go_wp2_with fail
  clear q0 q1 f0 f1
  have hb := Blk.new w 30 #[.int .i64 12, .int .i64 40]
  have q0 := hb.cell 0
  have q1 := hb.cell 1
  simp only [List.getElem?_toArray, List.getElem?_cons_zero, List.getElem?_cons_succ] at q0 q1
  exact bodyPost_ret (v := .agg #[.int .i64 12, .int .i64 40]) (by simp [results, Tryz.results43, go_sem, q0, q1]) rfl ⟨by rw [HAV.out, HG.out], (Kept.refl w).alloc _⟩
 ·have hlI : ¬ (40 : Int) < (t.length : Int) := by omega
  have HLN := Lib.hid hl
  clear hl hb1
  go_enter Tryz.func43, Tryz.ntmps43
  go_wp2_with fail
  go_loopw [3] (fun q wr => ∃ k : Nat, k ≤ 3 ∧ q = .int .i64 k ∧ ChkD w wr ∧ ∀ r, r < k → (Tab.chkRound (RG t r) 0 t.length).1 = 0) (fun q wr => 3 - (intOf q).toNat)
  case atStart => exact ⟨0, by omega, rfl, HC0.out, fun r hr => absurd hr (by omega)⟩
  case round =>
   obtain ⟨k, hk, rfl, hcc, hz⟩ := hrel
   obtain ⟨wo, rfl⟩ : ∃ wo, wo = wr := ⟨_, rfl⟩
   have HCC := Lib.hid hcc
   have HZ := Lib.hid hz
   clear hcc hz
   rcases (show k = 3 ∨ k = 0 ∨ k = 1 ∨ k = 2 by omega) with rfl | rfl | rfl | rfl
   ·have q0 := HCC.out.1.cell 0
    have q1 := HCC.out.1.cell 1
    have f0 := HCC.out.1.frozen 0
    have f1 := HCC.out.1.frozen 1
    have HF := Lib.hid (HCC.out.set 0 0)
    have HG := Lib.hid (rck_ok HLN.out HZ.out)
    simp only [List.getElem?_toArray, List.getElem?_cons_zero, List.getElem?_cons_succ] at q0 q1
    go_wp2_with fail
    clear q0 q1 f0 f1
    have q0 := HF.out.1.cell 0
    have q1 := HF.out.1.cell 1
    simp only [List.getElem?_toArray, List.getElem?_cons_zero, List.getElem?_cons_succ] at q0 q1
    exact bodyPost_ret (v := .agg #[.int .i64 0, .int .i64 0]) (by simp [results, Tryz.results43, go_sem, q0, q1]) rfl ⟨by rw [HAV.out, HG.out], HF.out.2⟩
   ·go_wp2_with fail
    go_loopw [4] (fun q wr => ∃ i : Nat, i ≤ t.length ∧ q = .int .i64 i ∧ ChkD w wr ∧ Tab.chkRound (RG t 0) 0 t.length = Tab.chkRound (RG t 0) i (t.length - i)) (fun q wr => t.length - (intOf q).toNat)
    case atStart => exact ⟨0, Nat.zero_le _, rfl, HCC.out, rfl⟩
    case round =>
     obtain ⟨i, hi, rfl, hcc, he⟩ := hrel
     by_cases hlt : i < t.length
     ·have hltI : (i : Int) < (t.length : Int) := by omega
      have HCL0 := HH0.out i wr hlt hcc.2
      have HCD := Lib.hid hcc
      rw [show t.length - i = (t.length - (i + 1)) + 1 by omega] at he
      have HE := Lib.hid (he.trans (rnd_stepR (RG t 0) i (t.length - (i + 1))))
      clear he hcc
      rw [show Tab.chkHead t i = RG t 0 i from rfl] at HCL0
      obtain ⟨r, hr⟩ : ∃ r, RG t 0 i = r := ⟨_, rfl⟩
      rw [hr] at HCL0 HE
      have HCL := Lib.hid HCL0
      clear HCL0 hr
      by_cases hz : r = 0
      ·subst hz
       have HG := Lib.hid (show Tab.chkRound (RG t 0) 0 t.length = Tab.chkRound (RG t 0) (i + 1) (t.length - (i + 1)) by rw [HE.out, if_pos rfl])
       go_wp2_with fail
       refine HCL.out.mono ?_
       rintro e w3 ⟨rfl, k3⟩
       have HCK := Lib.hid (HCD.out.keep k3)
       clear k3
       go_wp2_with fail
       go_roundw
       case rel => (repeat apply Exists.intro); exact ⟨⟨i + 1, by omega, by go_num, HCK.out, HG.out⟩, rfl⟩
       case measure => simp [intOf]; omega
      ·have hzb : (r == 0) = false := by simpa using hz
       have HG := Lib.hid (rck_bad HLN.out HZ.out (show Tab.chkRound (RG t 0) 0 t.length = (r, (i : Int)) by rw [HE.out, if_neg hz]) hz)
       clear hz
       go_wp2_with fail
       refine HCL.out.mono ?_
       rintro e w3 ⟨rfl, k3⟩
       have HCK := Lib.hid (HCD.out.keep k3)
       clear k3
       have q0 := HCK.out.1.cell 0
       have q1 := HCK.out.1.cell 1
       have f0 := HCK.out.1.frozen 0
       have f1 := HCK.out.1.frozen 1
       have HF := Lib.hid (HCK.out.set r i)
       simp only [List.getElem?_toArray, List.getElem?_cons_zero, List.getElem?_cons_succ] at q0 q1
       go_wp2_with fail
       clear q0 q1 f0 f1
       have q0 := HF.out.1.cell 0
       have q1 := HF.out.1.cell 1
       simp only [List.getElem?_toArray, List.getElem?_cons_zero, List.getElem?_cons_succ] at q0 q1
       exact bodyPost_ret (v := .agg #[.int .i64 r, .int .i64 i]) (by simp [results, Tryz.results43, go_sem, q0, q1]) rfl ⟨by rw [HAV.out, HG.out], HF.out.2⟩
     ·have hltI : ¬ (i : Int) < (t.length : Int) := by omega
      obtain rfl : i = t.length := by omega
      have HCD := Lib.hid hcc
      have HZ2 := Lib.hid (show ∀ r, r < 0 + 1 → (Tab.chkRound (RG t r) 0 t.length).1 = 0 by
       intro r hr
       by_cases e : r = 0
       ·subst e
        rw [he, Nat.sub_self]
        rfl
       ·exact HZ.out r (by omega))
      clear he hcc
      go_wp2_with fail
      go_roundw
      case rel => exact ⟨0 + 1, by omega, by go_num, HCD.out, HZ2.out⟩
      case measure => simp [intOf]
   ·go_wp2_with fail
    go_loopw [4] (fun q wr => ∃ i : Nat, i ≤ t.length ∧ q = .int .i64 i ∧ ChkD w wr ∧ Tab.chkRound (RG t 1) 0 t.length = Tab.chkRound (RG t 1) i (t.length - i)) (fun q wr => t.length - (intOf q).toNat)
    case atStart => exact ⟨0, Nat.zero_le _, rfl, HCC.out, rfl⟩
    case round =>
     obtain ⟨i, hi, rfl, hcc, he⟩ := hrel
     by_cases hlt : i < t.length
     ·have hltI : (i : Int) < (t.length : Int) := by omega
      have HCL0 := HH1.out i wr hlt hcc.2
      have HCD := Lib.hid hcc
      rw [show t.length - i = (t.length - (i + 1)) + 1 by omega] at he
      have HE := Lib.hid (he.trans (rnd_stepR (RG t 1) i (t.length - (i + 1))))
      clear he hcc
      rw [show Tab.chkSuper t i = RG t 1 i from rfl] at HCL0
      obtain ⟨r, hr⟩ : ∃ r, RG t 1 i = r := ⟨_, rfl⟩
      rw [hr] at HCL0 HE
      have HCL := Lib.hid HCL0
      clear HCL0 hr
      by_cases hz : r = 0
      ·subst hz
       have HG := Lib.hid (show Tab.chkRound (RG t 1) 0 t.length = Tab.chkRound (RG t 1) (i + 1) (t.length - (i + 1)) by rw [HE.out, if_pos rfl])
       go_wp2_with fail
       refine HCL.out.mono ?_
       rintro e w3 ⟨rfl, k3⟩
       have HCK := Lib.hid (HCD.out.keep k3)
       clear k3
       go_wp2_with fail
       go_roundw
       case rel => (repeat apply Exists.intro); exact ⟨⟨i + 1, by omega, by go_num, HCK.out, HG.out⟩, rfl⟩
       case measure => simp [intOf]; omega
      ·have hzb : (r == 0) = false := by simpa using hz
       have HG := Lib.hid (rck_bad HLN.out HZ.out (show Tab.chkRound (RG t 1) 0 t.length = (r, (i : Int)) by rw [HE.out, if_neg hz]) hz)
       clear hz
       go_wp2_with fail
       refine HCL.out.mono ?_
       rintro e w3 ⟨rfl, k3⟩
       have HCK := Lib.hid (HCD.out.keep k3)
       clear k3
       have q0 := HCK.out.1.cell 0
       have q1 := HCK.out.1.cell 1
       have f0 := HCK.out.1.frozen 0
       have f1 := HCK.out.1.frozen 1
       have HF := Lib.hid (HCK.out.set r i)
       simp only [List.getElem?_toArray, List.getElem?_cons_zero, List.getElem?_cons_succ] at q0 q1
       go_wp2_with fail
       clear q0 q1 f0 f1
       have q0 := HF.out.1.cell 0
       have q1 := HF.out.1.cell 1
       simp only [List.getElem?_toArray, List.getElem?_cons_zero, List.getElem?_cons_succ] at q0 q1
       exact bodyPost_ret (v := .agg #[.int .i64 r, .int .i64 i]) (by simp [results, Tryz.results43, go_sem, q0, q1]) rfl ⟨by rw [HAV.out, HG.out], HF.out.2⟩
     ·have hltI : ¬ (i : Int) < (t.length : Int) := by omega
      obtain rfl : i = t.length := by omega
      have HCD := Lib.hid hcc
      have HZ2 := Lib.hid (show ∀ r, r < 1 + 1 → (Tab.chkRound (RG t r) 0 t.length).1 = 0 by
       intro r hr
       by_cases e : r = 1
       ·subst e
        rw [he, Nat.sub_self]
        rfl
       ·exact HZ.out r (by omega))
      clear he hcc
      go_wp2_with fail
      go_roundw
      case rel => exact ⟨1 + 1, by omega, by go_num, HCD.out, HZ2.out⟩
      case measure => simp [intOf]
   ·go_wp2_with fail
    go_loopw [4] (fun q wr => ∃ i : Nat, i ≤ t.length ∧ q = .int .i64 i ∧ ChkD w wr ∧ Tab.chkRound (RG t 2) 0 t.length = Tab.chkRound (RG t 2) i (t.length - i)) (fun q wr => t.length - (intOf q).toNat)
    case atStart => exact ⟨0, Nat.zero_le _, rfl, HCC.out, rfl⟩
    case round =>
     obtain ⟨i, hi, rfl, hcc, he⟩ := hrel
     by_cases hlt : i < t.length
     ·have hltI : (i : Int) < (t.length : Int) := by omega
      have HCL0 := HH2.out i wr hlt hcc.2
      have HCD := Lib.hid hcc
      rw [show t.length - i = (t.length - (i + 1)) + 1 by omega] at he
      have HE := Lib.hid (he.trans (rnd_stepR (RG t 2) i (t.length - (i + 1))))
      clear he hcc
      rw [show Tab.rOwn t i = RG t 2 i from rfl] at HCL0
      obtain ⟨r, hr⟩ : ∃ r, RG t 2 i = r := ⟨_, rfl⟩
      rw [hr] at HCL0 HE
      have HCL := Lib.hid HCL0
      clear HCL0 hr
      by_cases hz : r = 0
      ·subst hz
       have HG := Lib.hid (show Tab.chkRound (RG t 2) 0 t.length = Tab.chkRound (RG t 2) (i + 1) (t.length - (i + 1)) by rw [HE.out, if_pos rfl])
       go_wp2_with fail
       refine HCL.out.mono ?_
       rintro e w3 ⟨rfl, k3⟩
       have HCK := Lib.hid (HCD.out.keep k3)
       clear k3
       go_wp2_with fail
       go_roundw
       case rel => (repeat apply Exists.intro); exact ⟨⟨i + 1, by omega, by go_num, HCK.out, HG.out⟩, rfl⟩
       case measure => simp [intOf]; omega
      ·have hzb : (r == 0) = false := by simpa using hz
       have HG := Lib.hid (rck_bad HLN.out HZ.out (show Tab.chkRound (RG t 2) 0 t.length = (r, (i : Int)) by rw [HE.out, if_neg hz]) hz)
       clear hz
       go_wp2_with fail
       refine HCL.out.mono ?_
       rintro e w3 ⟨rfl, k3⟩
       have HCK := Lib.hid (HCD.out.keep k3)
       clear k3
       have q0 := HCK.out.1.cell 0
       have q1 := HCK.out.1.cell 1
       have f0 := HCK.out.1.frozen 0
       have f1 := HCK.out.1.frozen 1
       have HF := Lib.hid (HCK.out.set r i)
       simp only [List.getElem?_toArray, List.getElem?_cons_zero, List.getElem?_cons_succ] at q0 q1
       go_wp2_with fail
       clear q0 q1 f0 f1
       have q0 := HF.out.1.cell 0
       have q1 := HF.out.1.cell 1
       simp only [List.getElem?_toArray, List.getElem?_cons_zero, List.getElem?_cons_succ] at q0 q1
       exact bodyPost_ret (v := .agg #[.int .i64 r, .int .i64 i]) (by simp [results, Tryz.results43, go_sem, q0, q1]) rfl ⟨by rw [HAV.out, HG.out], HF.out.2⟩
     ·have hltI : ¬ (i : Int) < (t.length : Int) := by omega
      obtain rfl : i = t.length := by omega
      have HCD := Lib.hid hcc
      have HZ2 := Lib.hid (show ∀ r, r < 2 + 1 → (Tab.chkRound (RG t r) 0 t.length).1 = 0 by
       intro r hr
       by_cases e : r = 2
       ·subst e
        rw [he, Nat.sub_self]
        rfl
       ·exact HZ.out r (by omega))
      clear he hcc
      go_wp2_with fail
      go_roundw
      case rel => exact ⟨2 + 1, by omega, by go_num, HCD.out, HZ2.out⟩
      case measure => simp [intOf]
end Go.Proofs.YtjdkegfckkbpeaaGreatDoor
