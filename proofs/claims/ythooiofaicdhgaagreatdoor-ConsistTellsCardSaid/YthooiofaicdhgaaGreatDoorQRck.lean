/- The document's own answers about tables (chaperonref05): own, Check. -/
import Derived.Test.YthooiofaicdhgaaGreatDoorQRfv
import Derived.Test.YthooiofaicdhgaaGreatDoorQRpl
set_option linter.unusedSimpArgs false
set_option linter.unusedVariables false
set_option maxRecDepth 100000
namespace Go.Proofs.YthooiofaicdhgaaGreatDoor
open Go.ChangeShapes Go.WideShapes Go.ChangeAt Go.RowKit
theorem firstN_at {f : Nat → Int} {k : Nat} (h : ¬ f k = 0) : ∀ (n a : Nat), a ≤ k → k < a + n → (∀ j, a ≤ j → j < k → f j = 0) → Tab.firstN f a n = f k
 | 0, a, h1, h2, _ => by omega
 | n + 1, a, h1, h2, h3 => by
  unfold Tab.firstN
  by_cases e : a = k
  ·subst e
   rw [if_neg h]
  ·rw [if_pos (h3 a (Nat.le_refl _) (by omega))]
   exact firstN_at h n (a + 1) (by omega) (by omega) fun j hj hk => h3 j (by omega) hk
theorem firstN_all {f : Nat → Int} {n : Nat} (h : ∀ j, j < n → f j = 0) : Tab.firstN f 0 n = 0 := Tab.firstN_zero.2 fun j hj => by rw [Nat.zero_add]; exact h j hj
theorem below_more {f : Nat → Int} {k : Nat} (h : ∀ j, j < k → f j = 0) (hk : f k = 0) : ∀ j, j < k + 1 → f j = 0 := fun j hj => by
 by_cases e : j = k
 ·rw [e]; exact hk
 ·exact h j (by omega)
set_option maxHeartbeats 8000000 in
theorem rown_c (t : List Tab.C) (a : Option Addr) (cp : Nat) (i : Nat) (w : World) (h : TabAt w (.slice a t.length cp) t) (hS : Small t) (hil : i < t.length) :
  Calls Tryz.prog 142 #[.slice a t.length cp, .int .i64 i] w fun e w' => e = .returned (.int .i64 (Tab.rOwn t i)) ∧ Kept w w' := by
 obtain ⟨b, o, rfl, hcl⟩ := Row.cellsC h hil
 have hcp : i ≤ cp := by obtain ⟨_, c', e, h1, h2, _⟩ := h; injection e with _ _ e3; subst e3; omega
 have hilI : (i : Int) < (t.length : Int) := by omega
 have HFL := Lib.hid (fun (fv mv : Value) (k : Nat) (W : World) (kw : Kept w W) (hf : Row 2 VarAt w fv (Tab.nth t i).fields) (hm : ∃ ma mn mc, mv = .slice ma mn mc) (hk : k < (Tab.nth t i).fields.length) => rfield1_c t (some ⟨b, o, none⟩) cp (Tab.nth t i) fv mv k w W kw h hS hf hm hk)
 have HMT := Lib.hid (fun (fv mv : Value) (k : Nat) (W : World) (kw : Kept w W) (hf : Row 2 VarAt w fv (Tab.nth t i).fields) (hm : Row 3 SigAt w mv (Tab.nth t i).methods) (hk : k < (Tab.nth t i).methods.length) => rmethod1_c t (some ⟨b, o, none⟩) cp (Tab.nth t i) fv mv k w W kw h hS hf hm hk)
 have HRO := Lib.hid (show Tab.rOwn t i = if Tab.firstN (Tab.rField t (Tab.nth t i)) 0 (Tab.nth t i).fields.length = 0 then Tab.firstN (Tab.rMethod t (Tab.nth t i)) 0 (Tab.nth t i).methods.length else Tab.firstN (Tab.rField t (Tab.nth t i)) 0 (Tab.nth t i).fields.length from rfl)
 generalize Tab.rOwn t i = ans at HRO ⊢
 generalize Tab.nth t i = c at hcl HFL HMT HRO
 clear h hS
 obtain ⟨c0, c1, ⟨fv, c2, hf⟩, ⟨mv, c3, hm⟩, _⟩ := hcl
 have HFR := Lib.hid hf
 have HMR := Lib.hid hm
 obtain ⟨fa, fc, rfl, f1, f2, _⟩ := hf
 obtain ⟨ma, mc, rfl, m1, m2, _⟩ := hm
 unfold maxLen at f2 m2
 have HFC := Lib.hid (fun (k : Nat) (W : World) (kw : Kept w W) (hk : k < c.fields.length) => HFL.out (.slice fa c.fields.length fc) (.slice ma c.methods.length mc) k W kw HFR.out ⟨_, _, _, rfl⟩ hk)
 have HMC := Lib.hid (fun (k : Nat) (W : World) (kw : Kept w W) (hk : k < c.methods.length) => HMT.out (.slice fa c.fields.length fc) (.slice ma c.methods.length mc) k W kw HFR.out HMR.out hk)
 clear HFL HMT HFR HMR
 generalize c.fields.length = nf at c2 HRO HFC HMC f1
 generalize c.methods.length = nm at c3 HRO HFC HMC m1
 generalize Tab.rField t c = F at HRO HFC
 generalize Tab.rMethod t c = G at HRO HMC
 generalize c.name = cn at c0 HFC HMC
 generalize c.super = cs at c1 HFC HMC
 go_enter Tryz.func142, Tryz.ntmps142
 go_wp2_with fail
 go_loopw [5] (fun q wr => ∃ k : Nat, k ≤ nf ∧ q = .int .i64 k ∧ (∀ j, j < k → F j = 0) ∧ Kept w wr) (fun q wr => nf - (intOf q).toNat)
 case atStart => exact ⟨0, Nat.zero_le _, rfl, (fun j hj => by omega), Kept.refl _⟩
 case round =>
  obtain ⟨k, hk, rfl, hz, hkw⟩ := hrel
  obtain ⟨wo, rfl⟩ : ∃ wo, wo = wr := ⟨_, rfl⟩
  have HZ := Lib.hid hz
  have HK := Lib.hid hkw
  have d0 := hkw.cell c0
  have d1 := hkw.cell c1
  have d2 := hkw.cell c2
  have d3 := hkw.cell c3
  clear hz hkw
  by_cases hlt : k < nf
  ·have hltI : (k : Int) < (nf : Int) := by omega
   have HC := HFC.out k wo HK.out hlt
   obtain ⟨r, hr⟩ : ∃ r, F k = r := ⟨_, rfl⟩
   rw [hr] at HC
   have HCC := Lib.hid HC
   have HR := Lib.hid hr
   clear HC hr c0 c1 c2 c3
   by_cases hr0 : r = 0
   ·subst hr0
    go_wp2_with fail
    refine HCC.out.mono ?_
    rintro e w2 ⟨rfl, k2⟩
    have HK2 := Lib.hid (HK.out.trans k2)
    clear k2
    go_wp2_with fail
    go_roundw
    case rel => exact ⟨k + 1, by omega, by go_num, below_more HZ.out HR.out, HK2.out⟩
    case measure => simp [intOf]; omega
   ·have hrb : (r == 0) = false := by simpa using hr0
    have HE := Lib.hid (show ans = r by
     have e := firstN_at (f := F) (k := k) (by rw [HR.out]; exact hr0) nf 0 (by omega) (by omega) fun j _ hj => HZ.out j hj
     rw [HRO.out, e, HR.out, if_neg hr0])
    clear hr0
    go_wp2_with fail
    refine HCC.out.mono ?_
    rintro e w2 ⟨rfl, k2⟩
    have HK2 := Lib.hid (HK.out.trans k2)
    clear k2
    go_wp2_with fail
    go_ret
    exact ⟨by rw [HE.out]; rfl, HK2.out⟩
  ·have hltI : ¬ (k : Int) < (nf : Int) := by omega
   obtain rfl : k = nf := by omega
   have HR2 := Lib.hid (show ans = Tab.firstN G 0 nm by rw [HRO.out, firstN_all HZ.out, if_pos rfl])
   clear HRO HFC
   go_wp2_with fail
   go_loopw [7] (fun q wr => ∃ k : Nat, k ≤ nm ∧ q = .int .i64 k ∧ (∀ j, j < k → G j = 0) ∧ Kept w wr) (fun q wr => nm - (intOf q).toNat)
   case atStart => exact ⟨0, Nat.zero_le _, rfl, (fun j hj => by omega), HK.out⟩
   case round =>
    obtain ⟨q, hq, rfl, hz, hkw⟩ := hrel
    have HY := Lib.hid hz
    have HQ := Lib.hid hkw
    have e0 := hkw.cell c0
    have e1 := hkw.cell c1
    have e2 := hkw.cell c2
    have e3 := hkw.cell c3
    clear hz hkw
    by_cases hlt2 : q < nm
    ·have hlt2I : (q : Int) < (nm : Int) := by omega
     have HC := HMC.out q wr HQ.out hlt2
     obtain ⟨r, hr⟩ : ∃ r, G q = r := ⟨_, rfl⟩
     rw [hr] at HC
     have HCC := Lib.hid HC
     have HR := Lib.hid hr
     clear HC hr c0 c1 c2 c3 d0 d1 d2 d3
     by_cases hr0 : r = 0
     ·subst hr0
      go_wp2_with fail
      refine HCC.out.mono ?_
      rintro e w2 ⟨rfl, k2⟩
      have HK2 := Lib.hid (HQ.out.trans k2)
      clear k2
      go_wp2_with fail
      go_roundw
      case rel => exact ⟨q + 1, by omega, by go_num, below_more HY.out HR.out, HK2.out⟩
      case measure => simp [intOf]; omega
     ·have hrb : (r == 0) = false := by simpa using hr0
      have HE := Lib.hid (show ans = r by
       have e := firstN_at (f := G) (k := q) (by rw [HR.out]; exact hr0) nm 0 (by omega) (by omega) fun j _ hj => HY.out j hj
       rw [HR2.out, e, HR.out])
      clear hr0
      go_wp2_with fail
      refine HCC.out.mono ?_
      rintro e w2 ⟨rfl, k2⟩
      have HK2 := Lib.hid (HQ.out.trans k2)
      clear k2
      go_wp2_with fail
      go_ret
      exact ⟨by rw [HE.out]; rfl, HK2.out⟩
    ·have hlt2I : ¬ (q : Int) < (nm : Int) := by omega
     obtain rfl : q = nm := by omega
     obtain rfl : ans = 0 := by rw [HR2.out, firstN_all HY.out]
     go_wp2_with fail
     go_ret
     exact ⟨rfl, HQ.out⟩
/-! Check -/
def RG (t : List Tab.C) : Nat → Nat → Int
 | 0 => Tab.chkHead t
 | 1 => Tab.chkSuper t
 | _ => Tab.rOwn t
theorem rck_bad {t : List Tab.C} {k : Nat} {e i : Int} (hl : ¬ 40 < t.length) (hz : ∀ r, r < k → (Tab.chkRound (RG t r) 0 t.length).1 = 0) (hk : Tab.chkRound (RG t k) 0 t.length = (e, i)) (he : ¬ e = 0) (hk3 : k < 3 := by omega) : Tab.rCheck t = (e, i) := by
 unfold Tab.rCheck
 rw [if_neg hl]
 rcases (show k = 0 ∨ k = 1 ∨ k = 2 by omega) with rfl | rfl | rfl
 ·have h0 : Tab.chkRound (Tab.chkHead t) 0 t.length = (e, i) := hk
  rw [h0, if_neg he]
 ·have h0 : (Tab.chkRound (Tab.chkHead t) 0 t.length).1 = 0 := hz 0 (by omega)
  have h1 : Tab.chkRound (Tab.chkSuper t) 0 t.length = (e, i) := hk
  rw [if_pos h0, h1, if_neg he]
 ·have h0 : (Tab.chkRound (Tab.chkHead t) 0 t.length).1 = 0 := hz 0 (by omega)
  have h1 : (Tab.chkRound (Tab.chkSuper t) 0 t.length).1 = 0 := hz 1 (by omega)
  have h2 : Tab.chkRound (Tab.rOwn t) 0 t.length = (e, i) := hk
  rw [if_pos h0, if_pos h1, h2]
theorem rck_ok {t : List Tab.C} (hl : ¬ 40 < t.length) (hz : ∀ r, r < 3 → (Tab.chkRound (RG t r) 0 t.length).1 = 0) : Tab.rCheck t = (0, 0) := by
 refine Tab.rCheck_zero ?_
 unfold Tab.rCheck
 have h0 : (Tab.chkRound (Tab.chkHead t) 0 t.length).1 = 0 := hz 0 (by omega)
 have h1 : (Tab.chkRound (Tab.chkSuper t) 0 t.length).1 = 0 := hz 1 (by omega)
 have h2 : (Tab.chkRound (Tab.rOwn t) 0 t.length).1 = 0 := hz 2 (by omega)
 rw [if_neg hl, if_pos h0, if_pos h1]
 exact h2
theorem rnd_stepR (f : Nat → Int) (i n : Nat) : Tab.chkRound f i (n + 1) = if f i = 0 then Tab.chkRound f (i + 1) n else (f i, (i : Int)) := rfl
def ChkD (w W : World) : Prop := Blk W w.heap.size 38 #[.int .i64 0, .int .i64 0] ∧ Kept w W
theorem ChkD.keep {w A B : World} (h : ChkD w A) (k : Kept A B) : ChkD w B := ⟨h.1.kept k, h.2.trans k⟩
theorem ChkD.set {w W : World} (h : ChkD w W) (e i : Int) : Blk ((W.setCell ⟨w.heap.size, 0, none⟩ (.int .i64 e)).setCell ⟨w.heap.size, 1, none⟩ (.int .i64 i)) w.heap.size 38 #[.int .i64 e, .int .i64 i] ∧ Kept w ((W.setCell ⟨w.heap.size, 0, none⟩ (.int .i64 e)).setCell ⟨w.heap.size, 1, none⟩ (.int .i64 i)) :=
 ⟨(h.1.put 0 _).put 1 _, (h.2.setCell (by simp) _).setCell (by simp) _⟩
set_option maxHeartbeats 8000000 in
theorem rcheck_c (t : List Tab.C) (a : Option Addr) (cp : Nat) (w : World) (h : TabAt w (.slice a t.length cp) t) (hS : Small t) :
  Calls Tryz.prog 91 #[.slice a t.length cp] w fun e w' => e = .returned (.agg #[.int .i64 (Tab.rCheck t).1, .int .i64 (Tab.rCheck t).2]) ∧ Kept w w' := by
 obtain ⟨av, hav⟩ : ∃ av, av = Tab.rCheck t := ⟨_, rfl⟩
 rw [← hav]
 have HAV := Lib.hid hav
 clear hav
 have hb1 := Blk.new w 38 #[.int .i64 0, .int .i64 0]
 have HC0 := Lib.hid (show ChkD w (w.alloc (.cells #[.int .i64 0, .int .i64 0] 38)) from ⟨hb1, (Kept.refl w).alloc _⟩)
 have HH0 := Lib.hid (fun (i : Nat) (wr : World) (hi : i < t.length) (k : Kept w wr) => rnamed_c t a cp i wr (tab_kept h k) hS.len hi)
 have HH1 := Lib.hid (fun (i : Nat) (wr : World) (hi : i < t.length) (k : Kept w wr) => rlined_c t a cp i wr (tab_kept h k) hS.len hi)
 have HH2 := Lib.hid (fun (i : Nat) (wr : World) (hi : i < t.length) (k : Kept w wr) => rown_c t a cp i wr (tab_kept h k) hS hi)
 have hts := hS.len
 clear h hS
 by_cases hl : 40 < t.length
 ·have hlI : (40 : Int) < (t.length : Int) := by omega
  have HG := Lib.hid (show Tab.rCheck t = (12, 40) by unfold Tab.rCheck; rw [if_pos hl])
  have q0 := hb1.cell 0
  have q1 := hb1.cell 1
  have f0 := hb1.frozen 0
  have f1 := hb1.frozen 1
  simp only [List.getElem?_toArray, List.getElem?_cons_zero, List.getElem?_cons_succ] at q0 q1
  clear hl hb1
  go_enter Tryz.func91, Tryz.ntmps91
  go_wp2_with fail
  clear q0 q1 f0 f1
  have hb := Blk.new w 38 #[.int .i64 12, .int .i64 40]
  have q0 := hb.cell 0
  have q1 := hb.cell 1
  simp only [List.getElem?_toArray, List.getElem?_cons_zero, List.getElem?_cons_succ] at q0 q1
  exact bodyPost_ret (v := .agg #[.int .i64 12, .int .i64 40]) (by simp [results, Tryz.results91, go_sem, q0, q1]) rfl ⟨by rw [HAV.out, HG.out], (Kept.refl w).alloc _⟩
 ·have hlI : ¬ (40 : Int) < (t.length : Int) := by omega
  have HLN := Lib.hid hl
  clear hl hb1
  go_enter Tryz.func91, Tryz.ntmps91
  go_wp2_with fail
  go_loopw [3] (fun q wr => ∃ k : Nat, k ≤ 3 ∧ q = .int .i64 k ∧ ChkD w wr ∧ ∀ r, r < k → (Tab.chkRound (RG t r) 0 t.length).1 = 0) (fun q wr => 3 - (intOf q).toNat)
  case atStart => exact ⟨0, by omega, rfl, HC0.out, fun r hr => absurd hr (by omega)⟩
  case round =>
   obtain ⟨k, hk, rfl, hcc, hz⟩ := hrel
   obtain ⟨wo, rfl⟩ : ∃ wo, wo = wr := ⟨_, rfl⟩
   have HCC := Lib.hid hcc
   have HZ := Lib.hid hz
   clear hcc hz
   rcases (show k = 3 ∨ k = 0 ∨ k = 1 ∨ k = 2 by omega) with rfl | rfl | rfl | rfl
   ·have q0 := HCC.out.1.cell 0
    have q1 := HCC.out.1.cell 1
    have f0 := HCC.out.1.frozen 0
    have f1 := HCC.out.1.frozen 1
    have HF := Lib.hid (HCC.out.set 0 0)
    have HG := Lib.hid (rck_ok HLN.out HZ.out)
    simp only [List.getElem?_toArray, List.getElem?_cons_zero, List.getElem?_cons_succ] at q0 q1
    go_wp2_with fail
    clear q0 q1 f0 f1
    have q0 := HF.out.1.cell 0
    have q1 := HF.out.1.cell 1
    simp only [List.getElem?_toArray, List.getElem?_cons_zero, List.getElem?_cons_succ] at q0 q1
    exact bodyPost_ret (v := .agg #[.int .i64 0, .int .i64 0]) (by simp [results, Tryz.results91, go_sem, q0, q1]) rfl ⟨by rw [HAV.out, HG.out], HF.out.2⟩
   ·go_wp2_with fail
    go_loopw [4] (fun q wr => ∃ i : Nat, i ≤ t.length ∧ q = .int .i64 i ∧ ChkD w wr ∧ Tab.chkRound (RG t 0) 0 t.length = Tab.chkRound (RG t 0) i (t.length - i)) (fun q wr => t.length - (intOf q).toNat)
    case atStart => exact ⟨0, Nat.zero_le _, rfl, HCC.out, rfl⟩
    case round =>
     obtain ⟨i, hi, rfl, hcc, he⟩ := hrel
     by_cases hlt : i < t.length
     ·have hltI : (i : Int) < (t.length : Int) := by omega
      have HCL0 := HH0.out i wr hlt hcc.2
      have HCD := Lib.hid hcc
      rw [show t.length - i = (t.length - (i + 1)) + 1 by omega] at he
      have HE := Lib.hid (he.trans (rnd_stepR (RG t 0) i (t.length - (i + 1))))
      clear he hcc
      rw [show Tab.chkHead t i = RG t 0 i from rfl] at HCL0
      obtain ⟨r, hr⟩ : ∃ r, RG t 0 i = r := ⟨_, rfl⟩
      rw [hr] at HCL0 HE
      have HCL := Lib.hid HCL0
      clear HCL0 hr
      by_cases hz : r = 0
      ·subst hz
       have HG := Lib.hid (show Tab.chkRound (RG t 0) 0 t.length = Tab.chkRound (RG t 0) (i + 1) (t.length - (i + 1)) by rw [HE.out, if_pos rfl])
       go_wp2_with fail
       refine HCL.out.mono ?_
       rintro e w3 ⟨rfl, k3⟩
       have HCK := Lib.hid (HCD.out.keep k3)
       clear k3
       go_wp2_with fail
       go_roundw
       case rel => (repeat apply Exists.intro); exact ⟨⟨i + 1, by omega, by go_num, HCK.out, HG.out⟩, rfl⟩
       case measure => simp [intOf]; omega
      ·have hzb : (r == 0) = false := by simpa using hz
       have HG := Lib.hid (rck_bad HLN.out HZ.out (show Tab.chkRound (RG t 0) 0 t.length = (r, (i : Int)) by rw [HE.out, if_neg hz]) hz)
       clear hz
       go_wp2_with fail
       refine HCL.out.mono ?_
       rintro e w3 ⟨rfl, k3⟩
       have HCK := Lib.hid (HCD.out.keep k3)
       clear k3
       have q0 := HCK.out.1.cell 0
       have q1 := HCK.out.1.cell 1
       have f0 := HCK.out.1.frozen 0
       have f1 := HCK.out.1.frozen 1
       have HF := Lib.hid (HCK.out.set r i)
       simp only [List.getElem?_toArray, List.getElem?_cons_zero, List.getElem?_cons_succ] at q0 q1
       go_wp2_with fail
       clear q0 q1 f0 f1
       have q0 := HF.out.1.cell 0
       have q1 := HF.out.1.cell 1
       simp only [List.getElem?_toArray, List.getElem?_cons_zero, List.getElem?_cons_succ] at q0 q1
       exact bodyPost_ret (v := .agg #[.int .i64 r, .int .i64 i]) (by simp [results, Tryz.results91, go_sem, q0, q1]) rfl ⟨by rw [HAV.out, HG.out], HF.out.2⟩
     ·have hltI : ¬ (i : Int) < (t.length : Int) := by omega
      obtain rfl : i = t.length := by omega
      have HCD := Lib.hid hcc
      have HZ2 := Lib.hid (show ∀ r, r < 0 + 1 → (Tab.chkRound (RG t r) 0 t.length).1 = 0 by
       intro r hr
       by_cases e : r = 0
       ·subst e
        rw [he, Nat.sub_self]
        rfl
       ·exact HZ.out r (by omega))
      clear he hcc
      go_wp2_with fail
      go_roundw
      case rel => exact ⟨0 + 1, by omega, by go_num, HCD.out, HZ2.out⟩
      case measure => simp [intOf]
   ·go_wp2_with fail
    go_loopw [4] (fun q wr => ∃ i : Nat, i ≤ t.length ∧ q = .int .i64 i ∧ ChkD w wr ∧ Tab.chkRound (RG t 1) 0 t.length = Tab.chkRound (RG t 1) i (t.length - i)) (fun q wr => t.length - (intOf q).toNat)
    case atStart => exact ⟨0, Nat.zero_le _, rfl, HCC.out, rfl⟩
    case round =>
     obtain ⟨i, hi, rfl, hcc, he⟩ := hrel
     by_cases hlt : i < t.length
     ·have hltI : (i : Int) < (t.length : Int) := by omega
      have HCL0 := HH1.out i wr hlt hcc.2
      have HCD := Lib.hid hcc
      rw [show t.length - i = (t.length - (i + 1)) + 1 by omega] at he
      have HE := Lib.hid (he.trans (rnd_stepR (RG t 1) i (t.length - (i + 1))))
      clear he hcc
      rw [show Tab.chkSuper t i = RG t 1 i from rfl] at HCL0
      obtain ⟨r, hr⟩ : ∃ r, RG t 1 i = r := ⟨_, rfl⟩
      rw [hr] at HCL0 HE
      have HCL := Lib.hid HCL0
      clear HCL0 hr
      by_cases hz : r = 0
      ·subst hz
       have HG := Lib.hid (show Tab.chkRound (RG t 1) 0 t.length = Tab.chkRound (RG t 1) (i + 1) (t.length - (i + 1)) by rw [HE.out, if_pos rfl])
       go_wp2_with fail
       refine HCL.out.mono ?_
       rintro e w3 ⟨rfl, k3⟩
       have HCK := Lib.hid (HCD.out.keep k3)
       clear k3
       go_wp2_with fail
       go_roundw
       case rel => (repeat apply Exists.intro); exact ⟨⟨i + 1, by omega, by go_num, HCK.out, HG.out⟩, rfl⟩
       case measure => simp [intOf]; omega
      ·have hzb : (r == 0) = false := by simpa using hz
       have HG := Lib.hid (rck_bad HLN.out HZ.out (show Tab.chkRound (RG t 1) 0 t.length = (r, (i : Int)) by rw [HE.out, if_neg hz]) hz)
       clear hz
       go_wp2_with fail
       refine HCL.out.mono ?_
       rintro e w3 ⟨rfl, k3⟩
       have HCK := Lib.hid (HCD.out.keep k3)
       clear k3
       have q0 := HCK.out.1.cell 0
       have q1 := HCK.out.1.cell 1
       have f0 := HCK.out.1.frozen 0
       have f1 := HCK.out.1.frozen 1
       have HF := Lib.hid (HCK.out.set r i)
       simp only [List.getElem?_toArray, List.getElem?_cons_zero, List.getElem?_cons_succ] at q0 q1
       go_wp2_with fail
       clear q0 q1 f0 f1
       have q0 := HF.out.1.cell 0
       have q1 := HF.out.1.cell 1
       simp only [List.getElem?_toArray, List.getElem?_cons_zero, List.getElem?_cons_succ] at q0 q1
       exact bodyPost_ret (v := .agg #[.int .i64 r, .int .i64 i]) (by simp [results, Tryz.results91, go_sem, q0, q1]) rfl ⟨by rw [HAV.out, HG.out], HF.out.2⟩
     ·have hltI : ¬ (i : Int) < (t.length : Int) := by omega
      obtain rfl : i = t.length := by omega
      have HCD := Lib.hid hcc
      have HZ2 := Lib.hid (show ∀ r, r < 1 + 1 → (Tab.chkRound (RG t r) 0 t.length).1 = 0 by
       intro r hr
       by_cases e : r = 1
       ·subst e
        rw [he, Nat.sub_self]
        rfl
       ·exact HZ.out r (by omega))
      clear he hcc
      go_wp2_with fail
      go_roundw
      case rel => exact ⟨1 + 1, by omega, by go_num, HCD.out, HZ2.out⟩
      case measure => simp [intOf]
   ·go_wp2_with fail
    go_loopw [4] (fun q wr => ∃ i : Nat, i ≤ t.length ∧ q = .int .i64 i ∧ ChkD w wr ∧ Tab.chkRound (RG t 2) 0 t.length = Tab.chkRound (RG t 2) i (t.length - i)) (fun q wr => t.length - (intOf q).toNat)
    case atStart => exact ⟨0, Nat.zero_le _, rfl, HCC.out, rfl⟩
    case round =>
     obtain ⟨i, hi, rfl, hcc, he⟩ := hrel
     by_cases hlt : i < t.length
     ·have hltI : (i : Int) < (t.length : Int) := by omega
      have HCL0 := HH2.out i wr hlt hcc.2
      have HCD := Lib.hid hcc
      rw [show t.length - i = (t.length - (i + 1)) + 1 by omega] at he
      have HE := Lib.hid (he.trans (rnd_stepR (RG t 2) i (t.length - (i + 1))))
      clear he hcc
      rw [show Tab.rOwn t i = RG t 2 i from rfl] at HCL0
      obtain ⟨r, hr⟩ : ∃ r, RG t 2 i = r := ⟨_, rfl⟩
      rw [hr] at HCL0 HE
      have HCL := Lib.hid HCL0
      clear HCL0 hr
      by_cases hz : r = 0
      ·subst hz
       have HG := Lib.hid (show Tab.chkRound (RG t 2) 0 t.length = Tab.chkRound (RG t 2) (i + 1) (t.length - (i + 1)) by rw [HE.out, if_pos rfl])
       go_wp2_with fail
       refine HCL.out.mono ?_
       rintro e w3 ⟨rfl, k3⟩
       have HCK := Lib.hid (HCD.out.keep k3)
       clear k3
       go_wp2_with fail
       go_roundw
       case rel => (repeat apply Exists.intro); exact ⟨⟨i + 1, by omega, by go_num, HCK.out, HG.out⟩, rfl⟩
       case measure => simp [intOf]; omega
      ·have hzb : (r == 0) = false := by simpa using hz
       have HG := Lib.hid (rck_bad HLN.out HZ.out (show Tab.chkRound (RG t 2) 0 t.length = (r, (i : Int)) by rw [HE.out, if_neg hz]) hz)
       clear hz
       go_wp2_with fail
       refine HCL.out.mono ?_
       rintro e w3 ⟨rfl, k3⟩
       have HCK := Lib.hid (HCD.out.keep k3)
       clear k3
       have q0 := HCK.out.1.cell 0
       have q1 := HCK.out.1.cell 1
       have f0 := HCK.out.1.frozen 0
       have f1 := HCK.out.1.frozen 1
       have HF := Lib.hid (HCK.out.set r i)
       simp only [List.getElem?_toArray, List.getElem?_cons_zero, List.getElem?_cons_succ] at q0 q1
       go_wp2_with fail
       clear q0 q1 f0 f1
       have q0 := HF.out.1.cell 0
       have q1 := HF.out.1.cell 1
       simp only [List.getElem?_toArray, List.getElem?_cons_zero, List.getElem?_cons_succ] at q0 q1
       exact bodyPost_ret (v := .agg #[.int .i64 r, .int .i64 i]) (by simp [results, Tryz.results91, go_sem, q0, q1]) rfl ⟨by rw [HAV.out, HG.out], HF.out.2⟩
     ·have hltI : ¬ (i : Int) < (t.length : Int) := by omega
      obtain rfl : i = t.length := by omega
      have HCD := Lib.hid hcc
      have HZ2 := Lib.hid (show ∀ r, r < 2 + 1 → (Tab.chkRound (RG t r) 0 t.length).1 = 0 by
       intro r hr
       by_cases e : r = 2
       ·subst e
        rw [he, Nat.sub_self]
        rfl
       ·exact HZ.out r (by omega))
      clear he hcc
      go_wp2_with fail
      go_roundw
      case rel => exact ⟨2 + 1, by omega, by go_num, HCD.out, HZ2.out⟩
      case measure => simp [intOf]
end Go.Proofs.YthooiofaicdhgaaGreatDoor
