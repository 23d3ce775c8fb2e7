/- The document's own answers about tables (chaperonref05): sameTypes, params. -/
import Derived.Test.YtjdkegfckkbpeaaGreatDoorQRfo
import Derived.Test.YtjdkegfckkbpeaaGreatDoorQz20
import Derived.Test.YtjdkegfckkbpeaaGreatDoorQRfl
import Derived.StillTactics
set_option linter.unusedSimpArgs false
set_option linter.unusedVariables false
set_option maxRecDepth 100000
namespace Go.Proofs.YtjdkegfckkbpeaaGreatDoor
open Go.ChangeShapes Go.WideShapes Go.ChangeAt Go.RowKit
theorem sameTys_no {A B : List Tab.V} {k : Nat} {x y : Tab.V} (hx : A[k]? = some x) (hy : B[k]? = some y) (h : ¬ x.typ = y.typ) : Tab.sameTys A B = false := by
 unfold Tab.sameTys
 rw [Bool.and_eq_false_iff]
 right
 rw [← Bool.not_eq_true, List.all_eq_true]
 intro hh
 have hz : (A.zip B)[k]? = some (x, y) := by rw [List.getElem?_zip_eq_some]; exact ⟨hx, hy⟩
 exact h (of_decide_eq_true (hh (x, y) (List.mem_of_getElem? hz)))
theorem sameTys_yes {A B : List Tab.V} (hl : A.length = B.length) (h : ∀ (k : Nat) x y, k < A.length → A[k]? = some x → B[k]? = some y → x.typ = y.typ) : Tab.sameTys A B = true := by
 unfold Tab.sameTys
 rw [Bool.and_eq_true, decide_eq_true_eq, List.all_eq_true]
 refine ⟨hl, fun p hp => ?_⟩
 obtain ⟨k, hk⟩ := List.getElem?_of_mem hp
 rw [List.getElem?_zip_eq_some] at hk
 exact decide_eq_true (h k p.1 p.2 (List.getElem?_eq_some_iff.1 hk.1).1 hk.1 hk.2)
set_option maxHeartbeats 8000000 in
theorem rsame_c (A B : Tab.M) (va vb : Value) (w0 w : World) (hw : Kept w0 w) (hA : Row 2 VarAt w0 va A.params) (hB : Row 2 VarAt w0 vb B.params) :
  Calls Tryz.prog 154 #[.agg #[.string A.name, va, .string A.res], .agg #[.string B.name, vb, .string B.res]] w fun e w' => e = .returned (.bool (Tab.sameSig A B)) ∧ Kept w w' := by
 obtain ⟨pa, ca, rfl, a1, a2, a3⟩ := hA
 obtain ⟨pb, cb, rfl, b1, b2, b3⟩ := hB
 unfold maxLen at a2 b2
 have HA := Lib.hid a3
 have HB := Lib.hid b3
 have HW := Lib.hid hw
 clear a3 b3 hw
 obtain ⟨an, han⟩ : ∃ x, A.name = x := ⟨_, rfl⟩
 obtain ⟨ar, har⟩ : ∃ x, A.res = x := ⟨_, rfl⟩
 obtain ⟨bn, hbn⟩ : ∃ x, B.name = x := ⟨_, rfl⟩
 obtain ⟨br, hbr⟩ : ∃ x, B.res = x := ⟨_, rfl⟩
 obtain ⟨al, hal⟩ : ∃ x, A.params = x := ⟨_, rfl⟩
 obtain ⟨bl, hbl⟩ : ∃ x, B.params = x := ⟨_, rfl⟩
 have HS := Lib.hid (show Tab.sameSig A B = (decide (ar = br) && Tab.sameTys al bl) by unfold Tab.sameSig; rw [har, hbr, hal, hbl])
 generalize Tab.sameSig A B = ans at HS ⊢
 rw [hal] at a1 HA ⊢
 rw [hbl] at b1 HB ⊢
 rw [han, har, hbn, hbr]
 have B1 := (Blk.new w 47 #[.string an, .slice pa al.length ca, .string ar]).alloc (.cells #[.string bn, .slice pb bl.length cb, .string br] 47)
 have B2 := Blk.new (w.alloc (.cells #[.string an, .slice pa al.length ca, .string ar] 47)) 47 #[.string bn, .slice pb bl.length cb, .string br]
 rw [World.size_alloc] at B2
 have HK := Lib.hid (((Kept.refl w).alloc (.cells #[.string an, .slice pa al.length ca, .string ar] 47)).alloc (.cells #[.string bn, .slice pb bl.length cb, .string br] 47))
 obtain ⟨W2, hW2⟩ : ∃ W2, (w.alloc (.cells #[.string an, .slice pa al.length ca, .string ar] 47)).alloc (.cells #[.string bn, .slice pb bl.length cb, .string br] 47) = W2 := ⟨_, rfl⟩
 rw [hW2] at B1 B2 HK
 have HW2 := Lib.hid hW2
 have HB1 := Lib.hid B1
 have HB2 := Lib.hid B2
 clear hal hbl han har hbn hbr B1 B2 hW2
 by_cases hl : al.length = bl.length
 ·by_cases hr : ar = br
  ·have hrb := beq_yes hr
   have HS2 := Lib.hid (show ans = Tab.sameTys al bl by rw [HS.out, decide_eq_true hr]; rfl)
   have HL := Lib.hid hl
   obtain ⟨n, hn⟩ : ∃ n, bl.length = n := ⟨_, rfl⟩
   rw [hn] at hl b1 HB2 ⊢
   rw [hl] at a1 HB1 ⊢
   have HN := Lib.hid (And.intro hl hn)
   clear hr hl hn
   go_enter Tryz.func154, Tryz.ntmps154
   go_wp2_with fail
   have hw := HW2.out
   rw [HN.out.1, HN.out.2] at hw
   rw [hw]
   clear hw
   go_loopw [5] (fun q wr => ∃ k : Nat, k ≤ n ∧ q = .int .i64 k ∧ (∀ (i : Nat) x y, i < k → al[i]? = some x → bl[i]? = some y → x.typ = y.typ) ∧ Kept W2 wr) (fun q wr => n - (intOf q).toNat)
   case atStart => exact ⟨0, Nat.zero_le _, rfl, fun i x y h => by omega, Kept.refl _⟩
   case round =>
    obtain ⟨k, hk, rfl, hsame, hkw⟩ := hrel
    have HSA := Lib.hid hsame
    have HKW := Lib.hid hkw
    have d1 := (HB1.out.kept hkw).cell 1
    have d2 := (HB2.out.kept hkw).cell 1
    simp only [List.getElem?_toArray, List.getElem?_cons_zero, List.getElem?_cons_succ] at d1 d2
    clear hsame hkw
    by_cases hlt : k < n
    ·have hltI : (k : Int) < (n : Int) := by omega
     have hka : k < al.length := by rw [HN.out.1]; exact hlt
     have hkb : k < bl.length := by rw [HN.out.2]; exact hlt
     have hx : al[k]? = some al[k] := List.getElem?_eq_getElem hka
     have hy : bl[k]? = some bl[k] := List.getElem?_eq_getElem hkb
     obtain ⟨xb, xo, rfl, xc⟩ := HA.out _ _ hx
     obtain ⟨yb, yo, rfl, yc⟩ := HB.out _ _ hy
     generalize al[k] = x at hx xc
     generalize bl[k] = y at hy yc
     have e1 := (HW.out.trans (HK.out.trans HKW.out)).cell xc.2.1
     have e2 := (HW.out.trans (HK.out.trans HKW.out)).cell yc.2.1
     have HX := Lib.hid hx
     have HY := Lib.hid hy
     clear hx hy xc yc hka hkb
     by_cases ht : x.typ = y.typ
     ·have htb := beq_yes ht
      have HM := Lib.hid (show ∀ (i : Nat) u v, i < k + 1 → al[i]? = some u → bl[i]? = some v → u.typ = v.typ by
       intro i u v hi hu hv
       rcases Nat.lt_or_eq_of_le (Nat.le_of_lt_succ hi) with h | h
       ·exact HSA.out i u v h hu hv
       ·subst h
        rw [HX.out] at hu
        rw [HY.out] at hv
        cases hu
        cases hv
        exact ht)
      clear ht
      go_wp2_with fail
      go_still (by kernel_rfl)
      go_wp2_with fail
      go_roundw
      case rel => exact ⟨k + 1, by omega, by go_num, HM.out, HKW.out.drew⟩
      case measure => simp [intOf]; omega
     ·have htb := beq_no ht
      obtain rfl : ans = false := by rw [HS2.out]; exact sameTys_no HX.out HY.out ht
      clear ht
      go_wp2_with fail
      go_still (by kernel_rfl)
      go_wp2_with fail
      go_ret
      exact ⟨rfl, (HK.out.trans HKW.out).drew⟩
    ·have hltI : ¬ (k : Int) < (n : Int) := by omega
     obtain rfl : k = n := by omega
     obtain rfl : ans = true := by
      rw [HS2.out]
      exact sameTys_yes HL.out fun i u v hi hu hv => HSA.out i u v (by rw [← HN.out.1]; exact hi) hu hv
     go_wp2_with fail
     go_ret
     exact ⟨rfl, HK.out.trans HKW.out⟩
  ·have hrb := beq_no hr
   obtain rfl : ans = false := by rw [HS.out, decide_eq_false hr]; rfl
   have hlI : (al.length : Int) = (bl.length : Int) := by omega
   clear hr hl
   go_enter Tryz.func154, Tryz.ntmps154
   go_wp2_with fail
   go_ret
   exact ⟨rfl, by first | exact HK.out | exact ((Kept.refl w).alloc _).alloc _⟩
 ·obtain rfl : ans = false := by
   rw [HS.out]
   unfold Tab.sameTys
   rw [decide_eq_false hl]
   simp
  have hlI : ((al.length : Int) == (bl.length : Int)) = false := by simp; omega
  go_enter Tryz.func154, Tryz.ntmps154
  go_wp2_with fail
  go_ret
  exact ⟨rfl, by first | exact HK.out | exact ((Kept.refl w).alloc _).alloc _⟩
/-- The parameters ahead of the i-th one are without fault. -/
def PsOk (t : List Tab.C) (ps : List Tab.V) (i : Nat) : Prop := Tab.chkPs t [] ps = Tab.chkPs t (ps.take i) (ps.drop i)
theorem psOk_zero (t : List Tab.C) (ps : List Tab.V) : PsOk t ps 0 := rfl
theorem psOk_at {t : List Tab.C} {ps : List Tab.V} {i : Nat} {p : Tab.V} (h : PsOk t ps i) (hp : ps[i]? = some p) :
  Tab.chkPs t [] ps = if Tab.chkVar t p = 0 then (if (Tab.ix Tab.V.name (ps.take i) p.name).isSome then 8 else Tab.chkPs t (ps.take (i + 1)) (ps.drop (i + 1))) else Tab.chkVar t p := by
 have hi : i < ps.length := (List.getElem?_eq_some_iff.1 hp).1
 have e : ps[i] = p := by rw [List.getElem?_eq_getElem hi] at hp; exact Option.some.inj hp
 unfold PsOk at h
 rw [h, List.drop_eq_getElem_cons hi, e, Tab.chkPs, List.take_add_one, hp]
 rfl
theorem psOk_end {t : List Tab.C} {ps : List Tab.V} (h : PsOk t ps ps.length) : Tab.chkPs t [] ps = 0 := by
 unfold PsOk at h
 rw [h, List.drop_length]
 rfl
theorem Tab.findV_isSome {n : ByteArray} {l : List Tab.V} : (∃ m ∈ l, m.name = n) → (Tab.ix Tab.V.name l n).isSome = true := by
 rintro ⟨m, hm, e⟩
 cases h : Tab.ix Tab.V.name l n with
 | some _ => rfl
 | none => exact absurd e (Tab.ix_isNone.1 h m hm)
set_option maxHeartbeats 16000000 in
theorem rparams_c (t : List Tab.C) (a : Option Addr) (cp : Nat) (M : Tab.M) (vm : Value) (w0 w : World) (hw : Kept w0 w) (h : TabAt w0 (.slice a t.length cp) t) (hm : Row 2 VarAt w0 vm M.params) :
  Calls Tryz.prog 153 #[.slice a t.length cp, .agg #[.string M.name, vm, .string M.res]] w fun e w' => e = .returned (.int .i64 (Tab.chkPs t [] M.params)) ∧ Kept w w' := by
 obtain ⟨pa, pc, rfl, a1, a2, a3⟩ := hm
 unfold maxLen at a2
 have HA := Lib.hid a3
 have HW := Lib.hid hw
 have HTY := Lib.hid (fun s W (k : Kept w W) => rtyped_c t (.slice a t.length cp) s W (tab_kept h (hw.trans k)))
 clear a3 hw h
 obtain ⟨an, han⟩ : ∃ x, M.name = x := ⟨_, rfl⟩
 obtain ⟨ar, har⟩ : ∃ x, M.res = x := ⟨_, rfl⟩
 obtain ⟨ps, hps⟩ : ∃ x, M.params = x := ⟨_, rfl⟩
 rw [hps] at a1 HA ⊢
 rw [han, har]
 obtain ⟨ans, hans⟩ : ∃ x, Tab.chkPs t [] ps = x := ⟨_, rfl⟩
 rw [hans]
 have HAN := Lib.hid hans
 have B1 := Lib.hid (Blk.new w 47 #[.string an, .slice pa ps.length pc, .string ar])
 have HK := Lib.hid ((Kept.refl w).alloc (.cells #[.string an, .slice pa ps.length pc, .string ar] 47))
 clear han har hps hans
 go_enter Tryz.func153, Tryz.ntmps153
 go_wp2_with fail
 go_loopw [5] (fun q wr => ∃ i : Nat, i ≤ ps.length ∧ q = .int .i64 i ∧ PsOk t ps i ∧ Kept w wr ∧ Blk wr w.heap.size 47 #[.string an, .slice pa ps.length pc, .string ar]) (fun q wr => ps.length - (intOf q).toNat)
 case atStart => exact ⟨0, Nat.zero_le _, rfl, psOk_zero _ _, HK.out, B1.out⟩
 case round =>
  obtain ⟨i, hi, rfl, hok, hkw, hb⟩ := hrel
  have HOK := Lib.hid hok
  have HKW := Lib.hid hkw
  have HB := Lib.hid hb
  have d1 := hb.cell 1
  simp only [List.getElem?_toArray, List.getElem?_cons_zero, List.getElem?_cons_succ] at d1
  clear hok hkw hb
  obtain ⟨wo, rfl⟩ : ∃ wo, wo = wr := ⟨_, rfl⟩
  by_cases hlt : i < ps.length
  ·have hltI : (i : Int) < (ps.length : Int) := by omega
   have hx : ps[i]? = some ps[i] := List.getElem?_eq_getElem hlt
   obtain ⟨xb, xo, rfl, xc⟩ := HA.out _ _ hx
   generalize ps[i] = x at hx xc
   have HX := Lib.hid hx
   have HAT := Lib.hid (psOk_at HOK.out hx)
   obtain ⟨y0, y1, z0, z1⟩ := xc
   have e0 := (HW.out.trans HKW.out).cell y0
   have e1 := (HW.out.trans HKW.out).cell y1
   unfold maxLen at z0 z1
   have HNM := Lib.hid (fun W => nameR_c x.name W (by omega))
   have HTP := Lib.hid (fun W => typeR_c x.typ W (by omega))
   have HTD := Lib.hid (fun W k => HTY.out x.typ W k (by omega))
   have HCT := Lib.hid (chkType_eq t x.typ)
   have HCV := Lib.hid (show Tab.chkVar t x = if Wrd.name x.name = true then Tab.chkType t x.typ else 5 from rfl)
   generalize Tab.chkVar t x = cv at HCV HAT
   generalize Tab.chkType t x.typ = ct at HCT HCV HTD
   have B6 := Lib.hid (Blk.new wo 72 #[.string x.name, .string x.typ])
   have HK6 := Lib.hid ((Kept.refl wo).alloc (.cells #[.string x.name, .string x.typ] 72))
   clear hx y0 y1 z0 z1
   cases hnm : Wrd.name x.name with
   | false =>
    rw [hnm] at HNM HCV
    obtain rfl : cv = 5 := HCV.out
    obtain rfl : ans = 5 := by rw [← HAN.out, HAT.out]; rfl
    clear hnm
    go_wp2_with fail
    refine (HNM.out _).mono ?_
    rintro e w2 ⟨rfl, k2⟩
    have HK2 := Lib.hid (HKW.out.trans (HK6.out.trans k2))
    clear k2
    go_wp2_with fail
    go_ret
    exact ⟨rfl, HK2.out⟩
   | true =>
    rw [hnm] at HNM HCV
    clear hnm
    cases htp : Wrd.typ x.typ with
    | false =>
     rw [htp] at HTP HCT
     obtain rfl : ct = 5 := HCT.out
     obtain rfl : cv = 5 := HCV.out
     obtain rfl : ans = 5 := by rw [← HAN.out, HAT.out]; rfl
     clear htp
     go_wp2_with fail
     refine (HNM.out _).mono ?_
     rintro e w2 ⟨rfl, k2⟩
     have HK2 := Lib.hid (HKW.out.trans (HK6.out.trans k2))
     have b62 := B6.out.kept k2
     have r1 := b62.cell 1
     simp only [List.getElem?_toArray, List.getElem?_cons_zero, List.getElem?_cons_succ] at r1
     clear k2 b62
     go_wp2_with fail
     refine (HTP.out _).mono ?_
     rintro e w3 ⟨rfl, k3⟩
     have HK3 := Lib.hid (HK2.out.trans k3)
     clear k3
     go_wp2_with fail
     go_ret
     exact ⟨rfl, HK3.out⟩
    | true =>
     rw [htp] at HTP
     have HCE := Lib.hid (show cv = ct from HCV.out)
     clear htp
     go_wp2_with fail
     refine (HNM.out _).mono ?_
     rintro e w2 ⟨rfl, k2⟩
     have HK2 := Lib.hid (HK6.out.trans k2)
     have b62 := B6.out.kept k2
     have r1 := b62.cell 1
     simp only [List.getElem?_toArray, List.getElem?_cons_zero, List.getElem?_cons_succ] at r1
     have B62 := Lib.hid b62
     clear k2 b62
     go_wp2_with fail
     refine (HTP.out _).mono ?_
     rintro e w3 ⟨rfl, k3⟩
     have HK3 := Lib.hid (HK2.out.trans k3)
     have b63 := B62.out.kept k3
     have s1 := b63.cell 1
     simp only [List.getElem?_toArray, List.getElem?_cons_zero, List.getElem?_cons_succ] at s1
     have B63 := Lib.hid b63
     clear k3 b63 r1
     go_wp2_with fail
     refine (HTD.out w3 (HKW.out.trans HK3.out)).mono ?_
     rintro e w4 ⟨rfl, k4⟩
     have HK4 := Lib.hid (HK3.out.trans k4)
     have B64 := Lib.hid (B63.out.kept k4)
     clear k4 s1
     by_cases hc0 : ct = 0
     ·subst hc0
      have hcv : cv = 0 := HCE.out
      have HAT2 := Lib.hid (show Tab.chkPs t [] ps = _ by rw [HAT.out, if_pos hcv])
      clear hcv HAT
      go_wp2_with fail
      go_loopw [8] (fun q wr => ∃ k : Nat, k ≤ i ∧ q = .int .i64 k ∧ (∀ y ∈ (ps.take i).take k, ¬ y.name = x.name) ∧ Kept w4 wr) (fun q wr => i - (intOf q).toNat)
      case atStart => exact ⟨0, Nat.zero_le _, rfl, by simp, Kept.refl _⟩
      case round =>
       obtain ⟨k, hk, rfl, hno, hk5⟩ := hrel
       have HNO := Lib.hid hno
       have HK5 := Lib.hid hk5
       have f1 := ((HB.out.kept HK4.out).kept hk5).cell 1
       have f0 := (B64.out.kept hk5).cell 0
       simp only [List.getElem?_toArray, List.getElem?_cons_zero, List.getElem?_cons_succ] at f0 f1
       clear hno hk5 d1 e0 e1
       by_cases hki : k < i
       ·have hkiI : (k : Int) < (i : Int) := by omega
        have hkl : k < ps.length := by omega
        have hklI : (k : Int) < (ps.length : Int) := by omega
        have hy : ps[k]? = some ps[k] := List.getElem?_eq_getElem hkl
        obtain ⟨yb, yo, hye, yc⟩ := HA.out _ _ hy
        injection hye with hye
        injection hye with hye1 hye2 _
        subst hye1 hye2
        generalize ps[k] = y at hy yc
        have g0 := (HW.out.trans (HKW.out.trans (HK4.out.trans HK5.out))).cell yc.1
        have HY := Lib.hid (show (ps.take i)[k]? = some y by rw [List.getElem?_take, if_pos hki]; exact hy)
        clear hy yc
        by_cases hn : y.name = x.name
        ·have hnb := beq_yes hn
         obtain rfl : ans = 8 := by
          rw [← HAN.out, HAT2.out, if_pos]
          exact Tab.findV_isSome ⟨y, List.mem_of_getElem? HY.out, hn⟩
         clear hn
         go_wp2_with fail
         go_still (by kernel_rfl)
         go_wp2_with fail
         go_ret
         exact ⟨rfl, (HKW.out.trans (HK4.out.trans HK5.out)).drew⟩
        ·have hnb := beq_no hn
         have HM := Lib.hid (take_not HNO.out HY.out hn)
         clear hn
         go_wp2_with fail
         go_still (by kernel_rfl)
         go_wp2_with fail
         go_roundw
         case rel => exact ⟨k + 1, by omega, by go_num, HM.out, HK5.out.drew⟩
         case measure => simp [intOf]; omega
       ·have hkiI : ¬ (k : Int) < (i : Int) := by omega
        obtain rfl : k = i := by omega
        have HOK2 := Lib.hid (show PsOk t ps (k + 1) by
         unfold PsOk
         rw [HAT2.out, if_neg]
         have hn : Tab.ix Tab.V.name (ps.take k) x.name = none := Tab.ix_none (by have := HNO.out; rwa [List.take_of_length_le (by simp; omega)] at this)
         rw [hn]
         simp)
        have HB5 := Lib.hid ((HB.out.kept HK4.out).kept HK5.out)
        have HKF := Lib.hid (HKW.out.trans (HK4.out.trans HK5.out))
        go_wp2_with fail
        go_roundw
        case rel => exact ⟨k + 1, by omega, by go_num, HOK2.out, HKF.out, HB5.out⟩
        case measure => simp [intOf]; omega
     ·have hc0b : (ct == 0) = false := by simpa using hc0
      have HRE := Lib.hid (show ans = ct by rw [← HAN.out, HAT.out, if_neg (by rw [HCE.out]; exact hc0), HCE.out])
      clear hc0
      go_wp2_with fail
      go_ret
      exact ⟨by rw [HRE.out]; rfl, HKW.out.trans HK4.out⟩
  ·have hltI : ¬ (i : Int) < (ps.length : Int) := by omega
   obtain rfl : i = ps.length := by omega
   obtain rfl : ans = 0 := by rw [← HAN.out, psOk_end HOK.out]
   go_wp2_with fail
   go_ret
   exact ⟨rfl, HKW.out⟩
end Go.Proofs.YtjdkegfckkbpeaaGreatDoor
