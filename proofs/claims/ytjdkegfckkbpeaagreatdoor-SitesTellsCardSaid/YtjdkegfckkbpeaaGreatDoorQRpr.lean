/- The document's own answers about precision (chaperonref08): members. The document's own answers about precision (chaperonref08): greatest. The document's own answers about precision (chaperonref08): Precise, Same, More. -/
import Derived.Test.YtjdkegfckkbpeaaGreatDoorQTkl
import Derived.Test.YtjdkegfckkbpeaaGreatDoorQTkk
import Derived.Test.YtjdkegfckkbpeaaGreatDoorQRmx
import Derived.Test.YtjdkegfckkbpeaaGreatDoorQRfo
import Derived.Deep.LoopGhost
import Derived.OwnWalk
import Derived.Test.YtjdkegfckkbpeaaGreatDoorQz24
import Derived.Test.YtjdkegfckkbpeaaGreatDoorQz20
set_option linter.unusedSimpArgs false
set_option linter.unusedVariables false
set_option maxRecDepth 100000
namespace Go.Proofs.YtjdkegfckkbpeaaGreatDoor
open Go.ChangeShapes Go.WideShapes Go.ChangeAt Go.RowKit
theorem all_take_no {α : Type} {p : α → Bool} {l : List α} {j : Nat} {x : α} (hx : l[j]? = some x) (hp : p x = false) : l.all p = false := by
 rw [← Bool.not_eq_true, List.all_eq_true]
 intro h
 rw [h x (List.mem_of_getElem? hx)] at hp
 cases hp
theorem all_take_more {α : Type} {p : α → Bool} {l : List α} {j : Nat} {x : α} (h : (l.take j).all p = true) (hx : l[j]? = some x) (hp : p x = true) : (l.take (j + 1)).all p = true := by
 rw [List.take_add_one, hx, List.all_append, h]
 simp [hp]
theorem zip_at {A B : List Tab.V} {j : Nat} {x y : Tab.V} (hx : A[j]? = some x) (hy : B[j]? = some y) : (A.zip B)[j]? = some (x, y) := by
 rw [List.getElem?_zip_eq_some]; exact ⟨hx, hy⟩
set_option maxHeartbeats 16000000 in
theorem rmem8_c (t : List Tab.C) (a : Option Addr) (cp : Nat) (P : Nat → Nat → Bool) (v : Value) (s u : ByteArray) (w : World) (h : TabAt w (.slice a t.length cp) t) (hS : Small t) (hv : Tab.Valid t) (hs : Tab.isC t s = true) (hu : Tab.isC t u = true) (hm : MatV t.length P v w) :
  Calls Tryz.prog 79 #[v, .slice a t.length cp, .string s, .string u] w fun e w' => e = .returned (.bool (Tab.hoM (Tab.hoP t P) t s u)) ∧ Kept w w' := by
 have HMV := Lib.hid hm
 have HT := Lib.hid h
 have HSM := Lib.hid hS
 have HH := Lib.hid (fun (x y : ByteArray) (W : World) (k : Kept w W) => rhold8_c t a cp P v x y W (tab_kept h k) (hm.kept k))
 have HAR := Lib.hid (fun (nm : ByteArray) (W : World) (k : Kept w W) => rarity_c t a cp s nm W (tab_kept h k) hS)
 have HFS := Lib.hid (fun (nm : ByteArray) (W : World) (k : Kept w W) => rfieldq_c t a cp s nm W (tab_kept h k) hS)
 have HFU := Lib.hid (fun (nm : ByteArray) (W : World) (k : Kept w W) => rfieldq_c t a cp u nm W (tab_kept h k) hS)
 have HMS := Lib.hid (fun (nm : ByteArray) (W : World) (k : Kept w W) => rmeth_c t a cp s nm W (tab_kept h k) hS)
 have HMU := Lib.hid (fun (nm : ByteArray) (W : World) (k : Kept w W) => rmeth_c t a cp u nm W (tab_kept h k) hS)
 have HSE := Lib.hid (fun (m : Tab.Mb ByteArray) (hm : m ∈ Tab.mbs t u) => Tab.see8 (Tab.hoP t P) hv hs hu hm)
 have HMB := Lib.hid (rmembers_c t a cp u w h hS)
 have HML := Lib.hid (show (Tab.members t u).length ≤ 2000 * 1000 by
  have h1 := fields_le hS u
  have h2 := methods_le hS u
  unfold Tab.members
  simp
  omega)
 have HTO := Lib.hid (Tab.mbs_told t u)
 have HA := Lib.hid (show Tab.hoM (Tab.hoP t P) t s u = (Tab.mbs t u).all (Tab.mokB (Tab.hoP t P) t s) from rfl)
 generalize Tab.hoM (Tab.hoP t P) t s u = ans at HA ⊢
 generalize Tab.members t u = M at HMB HML HTO
 obtain ⟨ma, mc, rfl, _⟩ := hm
 have hml := HML.out
 obtain ⟨B, hB⟩ : ∃ B, Tab.mbs t u = B := ⟨_, rfl⟩
 rw [hB] at HTO HA HSE
 obtain ⟨R, hR⟩ : ∃ R, Tab.hoP t P = R := ⟨_, rfl⟩
 rw [hR] at HH HSE HA
 have hbl : B.length = M.length := by rw [← HTO.out, List.length_map]
 clear h hS hv hs hu hB hR
 go_enter Tryz.func79, Tryz.ntmps79
 go_wp2_with fail
 refine HMB.out.mono ?_
 rintro e w1 ⟨mv, rfl, hr1, k1⟩
 obtain ⟨ra, rc, rfl⟩ := owns_slice_n hr1
 have HR1 := Lib.hid hr1
 have HK1 := Lib.hid k1
 clear hr1 k1
 go_wp2_with fail
 go_loopw [10] (fun q wr => ∃ j : Nat, q = .int .i64 j ∧ j ≤ M.length ∧ (B.take j).all (Tab.mokB R t s) = true ∧ Kept w1 wr) (fun q wr => M.length - (intOf q).toNat)
 case atStart => exact ⟨0, rfl, Nat.zero_le _, rfl, Kept.refl _⟩
 case round =>
  obtain ⟨j, rfl, hj, hal, hk⟩ := hrel
  obtain ⟨wo, rfl⟩ : ∃ wo, wo = wr := ⟨_, rfl⟩
  have HAL := Lib.hid hal
  have HKL := Lib.hid hk
  have HK := Lib.hid (HK1.out.trans hk)
  clear hal hk
  by_cases hlt : j < M.length
  ·have hltI : (j : Int) < (M.length : Int) := by omega
   have hx : B[j]? = some B[j] := List.getElem?_eq_getElem (by omega)
   generalize B[j] = m at hx
   have hmx : M[j]? = some (m.name, m.ar) := by rw [← HTO.out, List.getElem?_map, hx]; rfl
   obtain ⟨g, rfl, _⟩ := row_cells HR1.out (by omega)
   obtain ⟨d0, d1⟩ := mem_cells HR1.out hmx
   have c0 := HKL.out.cell d0
   have c1 := HKL.out.cell d1
   have HC0 := Lib.hid d0
   have HC1 := Lib.hid d1
   have HX := Lib.hid hx
   have hse := HSE.out m (List.mem_of_getElem? hx)
   have HC := HAR.out m.name wo HK.out
   unfold AryPost at HC
   clear hx hmx d0 d1
   rcases hse with ⟨h1, h2⟩ | ⟨fa, fb, h0, h1, h2, h3, h5⟩ | ⟨p, q, o1, o2, h0, h1, h3, h4, h5, h6⟩
   ·-- no such member
    obtain rfl : ans = false := by rw [HA.out]; exact all_take_no HX.out h2
    cases har : Tab.aryR t s m.name with
    | none =>
     rw [har] at HC
     have HCC := Lib.hid HC
     clear HC h1 h2 har
     go_wp2_with fail
     refine HCC.out.mono ?_
     rintro e w2 ⟨rfl, k2⟩
     have HK2 := Lib.hid (HK.out.trans k2)
     clear k2
     go_wp2_with fail
     go_ret
     exact ⟨rfl, HK2.out⟩
    | some n =>
     rw [har] at HC h1
     have hne : ¬ n = m.ar := fun e => h1 (by rw [e])
     have hnb : (n != m.ar) = true := by simp [hne]
     have HCC := Lib.hid HC
     obtain ⟨mn, hmn⟩ : ∃ x, m.ar = x := ⟨_, rfl⟩
     rw [hmn] at c1 hnb HC1
     clear HC h1 h2 har hne hmn
     go_wp2_with fail
     refine HCC.out.mono ?_
     rintro e w2 ⟨rfl, k2⟩
     have HK2 := Lib.hid (HK.out.trans k2)
     have c1' := k2.cell c1
     clear k2
     go_wp2_with fail
     go_ret
     exact ⟨rfl, HK2.out⟩
   ·-- a field
    rw [h1, h0] at HC
    rw [h0] at c1 HC1
    have HCC := Lib.hid HC
    have HE := Lib.hid h5
    have HF1 := Lib.hid (fun (W : World) (k : Kept w W) => show Calls _ _ _ W _ from (by have := HFS.out m.name W k; rw [h2] at this; exact this))
    have HF2 := Lib.hid (fun (W : World) (k : Kept w W) => show Calls _ _ _ W _ from (by have := HFU.out m.name W k; rw [h3] at this; exact this))
    unfold FldPost at HF1 HF2
    have HHR := Lib.hid (fun (W : World) (k : Kept w W) => HH.out fa fb W k)
    obtain ⟨r, hr⟩ : ∃ r, R fa fb = r := ⟨_, rfl⟩
    rw [hr] at HHR HE
    clear HC h0 h1 h2 h3 h5 hr
    go_wp2_with fail
    refine HCC.out.mono ?_
    rintro e w2 ⟨rfl, k2⟩
    have HK2 := Lib.hid (HK.out.trans k2)
    have HKL2 := Lib.hid (HKL.out.trans k2)
    have e0 := k2.cell c0
    have e1 := k2.cell c1
    simp only [Option.getD_some, Option.isSome_some]
    clear k2 c0 c1
    go_wp2_with fail
    refine (HF1.out _ HK2.out).mono ?_
    rintro e w3 ⟨rfl, k3⟩
    have HK3 := Lib.hid (HK2.out.trans k3)
    have HKL3 := Lib.hid (HKL2.out.trans k3)
    have f0 := k3.cell e0
    simp only [Option.getD_some, Option.isSome_some]
    clear k3 e0 e1
    go_wp2_with fail
    refine (HF2.out _ HK3.out).mono ?_
    rintro e w4 ⟨rfl, k4⟩
    have HK4 := Lib.hid (HK3.out.trans k4)
    have HKL4 := Lib.hid (HKL3.out.trans k4)
    simp only [Option.getD_some, Option.isSome_some]
    clear k4 f0
    go_wp2_with fail
    refine (HHR.out _ HK4.out).mono ?_
    rintro e w5 ⟨rfl, rfl⟩
    cases r with
    | false =>
     obtain rfl : ans = false := by rw [HA.out]; exact all_take_no HX.out HE.out
     go_wp2_with fail
     go_ret
     exact ⟨rfl, HK4.out⟩
    | true =>
     have HN := Lib.hid (all_take_more HAL.out HX.out HE.out)
     go_wp2_with fail
     go_roundw
     case rel => (first | exact ⟨j + 1, by go_num, by omega, HN.out, HKL4.out⟩ | ((repeat apply Exists.intro); exact ⟨⟨j + 1, by go_num, by omega, HN.out, HKL4.out⟩, rfl⟩))
     case measure => simp [intOf]; omega
   ·-- a method
    rw [h1, h0] at HC
    rw [h0] at c1 HC1
    have HCC := Lib.hid HC
    have HE := Lib.hid h6
    have HM1 := Lib.hid (fun (W : World) (k : Kept w W) => show Calls _ _ _ W (fun e w' => (∃ pv, e = .returned (.tuple #[.agg #[.string p.name, pv, .string p.res], .string o1, .bool true]) ∧ Row 2 VarAt W pv p.params) ∧ Kept W w') from (by have := HMS.out m.name W k; unfold MthR at this; rw [h3] at this; exact this))
    have HM2 := Lib.hid (fun (W : World) (k : Kept w W) => show Calls _ _ _ W (fun e w' => (∃ pv, e = .returned (.tuple #[.agg #[.string q.name, pv, .string q.res], .string o2, .bool true]) ∧ Row 2 VarAt W pv q.params) ∧ Kept W w') from (by have := HMU.out m.name W k; unfold MthR at this; rw [h4] at this; exact this))
    obtain ⟨n, hn⟩ : ∃ n, q.params.length = n := ⟨_, rfl⟩
    rw [hn] at c1 HC1 HCC
    have hpn : p.params.length = n := h5.trans hn
    have HPN := Lib.hid hpn
    have HQN := Lib.hid hn
    clear HC h0 h1 h3 h4 h5 h6 hpn hn
    go_wp2_with fail
    refine HCC.out.mono ?_
    rintro e w2 ⟨rfl, k2⟩
    have HK2 := Lib.hid (HK.out.trans k2)
    have HKL2 := Lib.hid (HKL.out.trans k2)
    have e0 := k2.cell c0
    have e1 := k2.cell c1
    simp only [Option.getD_some, Option.isSome_some]
    clear k2 c0 c1
    go_wp2_with fail
    refine (HM1.out _ HK2.out).mono ?_
    rintro e w3 ⟨⟨pv, rfl, hrow3⟩, k3⟩
    have HP3 := Lib.hid hrow3
    obtain ⟨pa, pc, rfl, p1, p2, _⟩ := hrow3
    rw [HPN.out] at p1 HP3 ⊢
    unfold maxLen at p2
    have HK3 := Lib.hid ((HK2.out.trans k3).alloc (.cells #[.string p.name, .slice pa n pc, .string p.res] 47))
    have HKL3 := Lib.hid ((HKL2.out.trans k3).alloc (.cells #[.string p.name, .slice pa n pc, .string p.res] 47))
    have HB3 := Lib.hid (Blk.new w3 47 #[.string p.name, .slice pa n pc, .string p.res])
    have f0 := (k3.alloc (.cells #[.string p.name, .slice pa n pc, .string p.res] 47)).cell e0
    have HK23 := Lib.hid k3
    clear k3 e0 e1
    go_wp2_with fail
    refine (HM2.out _ HK3.out).mono ?_
    rintro e w4 ⟨⟨qv, rfl, hrow4⟩, k4⟩
    have HP4 := Lib.hid hrow4
    obtain ⟨qa, qc, rfl, q1, q2, _⟩ := hrow4
    rw [HQN.out] at q1 HP4 ⊢
    unfold maxLen at q2
    obtain ⟨w5, hw5⟩ : ∃ w5, w4.alloc (.cells #[.string q.name, .slice qa n qc, .string q.res] 47) = w5 := ⟨_, rfl⟩
    have k45 : Kept w4 w5 := by rw [← hw5]; exact (Kept.refl w4).alloc _
    have HK5 := Lib.hid ((HK3.out.trans k4).trans k45)
    have HKL5 := Lib.hid ((HKL3.out.trans k4).trans k45)
    have HB3b := Lib.hid ((HB3.out.kept k4).kept k45)
    have HB4 := Lib.hid (show Blk w5 w4.heap.size 47 #[.string q.name, .slice qa n qc, .string q.res] by rw [← hw5]; exact Blk.new w4 _ _)
    have HPr := Lib.hid (vars_kept HP3.out (((HK23.out.alloc (.cells #[.string p.name, .slice pa n pc, .string p.res] 47)).trans k4).trans k45))
    have HQr := Lib.hid (vars_kept HP4.out (k4.trans k45))
    have HW5 := Lib.hid hw5
    clear k4 k45 f0 hw5
    go_wp2_with fail
    rw [HW5.out]
    go_loopw [23] (fun z wr => ∃ i : Nat, z = .int .i64 i ∧ i ≤ n ∧ ((p.params.zip q.params).take i).all (fun x => R x.1.typ x.2.typ) = true ∧ Kept w5 wr) (fun z wr => n - (intOf z).toNat)
    case atStart => exact ⟨0, rfl, Nat.zero_le _, rfl, Kept.refl _⟩
    case round =>
     obtain ⟨i, rfl, hi, hal2, hk5⟩ := hrel
     have HAL2 := Lib.hid hal2
     have HK6 := Lib.hid (HK5.out.trans hk5)
     have HKL6 := Lib.hid (HKL5.out.trans hk5)
     have HK56 := Lib.hid hk5
     have s1 := (HB3b.out.kept hk5).cell 1
     have s2 := (HB3b.out.kept hk5).cell 2
     have u1 := (HB4.out.kept hk5).cell 1
     have u2 := (HB4.out.kept hk5).cell 2
     simp only [List.getElem?_toArray, List.getElem?_cons_zero, List.getElem?_cons_succ] at s1 s2 u1 u2
     have hpr := vars_kept HPr.out hk5
     have hqr := vars_kept HQr.out hk5
     clear hal2 hk5
     by_cases hil : i < n
     ·have hilI : (i : Int) < (n : Int) := by omega
      have hip : i < p.params.length := by rw [HPN.out]; exact hil
      have hiq : i < q.params.length := by rw [HQN.out]; exact hil
      have hpx : p.params[i]? = some p.params[i] := List.getElem?_eq_getElem hip
      have hqx : q.params[i]? = some q.params[i] := List.getElem?_eq_getElem hiq
      obtain ⟨_, _, ep, _, _, gp⟩ := hpr
      injection ep with ep1 ep2 ep3
      subst ep1 ep3
      obtain ⟨_, _, eq, _, _, gq⟩ := hqr
      injection eq with eq1 eq2 eq3
      subst eq1 eq3
      obtain ⟨pb, po, rfl, _, x1, _⟩ := gp _ _ hpx
      obtain ⟨qb, qo, rfl, _, y1, _⟩ := gq _ _ hqx
      have HZ := Lib.hid (zip_at hpx hqx)
      generalize p.params[i] = xp at hpx x1 HZ
      generalize q.params[i] = xq at hqx y1 HZ
      have HHR := Lib.hid (HH.out xp.typ xq.typ wr.drew HK6.out.drew)
      obtain ⟨r, hr⟩ : ∃ r, R xp.typ xq.typ = r := ⟨_, rfl⟩
      rw [hr] at HHR
      have HRR := Lib.hid hr
      clear gp gq hpx hqx hr s2 u2 ep2 eq2
      go_wp2_with fail
      go_still_tail 14, (by kernel_rfl)
      change wpList _ _ _ _ _ wr.drew
      clear s1 u1 x1 y1
      go_wp2_with fail
      refine HHR.out.mono ?_
      rintro e w7 ⟨rfl, rfl⟩
      cases r with
      | false =>
       obtain rfl : ans = false := by
        rw [HA.out]
        refine all_take_no HX.out ?_
        rw [HE.out, all_take_no HZ.out HRR.out]
        rfl
       go_wp2_with fail
       go_ret
       exact ⟨rfl, HK6.out.drew⟩
      | true =>
       have HN := Lib.hid (all_take_more HAL2.out HZ.out HRR.out)
       go_wp2_with fail
       go_roundw
       case rel => (first | exact ⟨i + 1, by go_num, by omega, HN.out, HK56.out.drew⟩ | ((repeat apply Exists.intro); exact ⟨⟨i + 1, by go_num, by omega, HN.out, HK56.out.drew⟩, rfl⟩))
       case measure => simp [intOf]; omega
     ·have hilI : ¬ (i : Int) < (n : Int) := by omega
      have HZA := Lib.hid (show ((p.params.zip q.params).all fun x => R x.1.typ x.2.typ) = true by
       have := HAL2.out
       rwa [List.take_of_length_le (by rw [List.length_zip, HPN.out, HQN.out]; omega)] at this)
      have HHR := Lib.hid (HH.out p.res q.res wr HK6.out)
      obtain ⟨r, hr⟩ : ∃ r, R p.res q.res = r := ⟨_, rfl⟩
      rw [hr] at HHR
      have HRR := Lib.hid (show Tab.mokB R t s m = r by rw [HE.out, HZA.out, hr]; rfl)
      clear hpr hqr hr s1 u1
      go_wp2_with fail
      refine HHR.out.mono ?_
      rintro e w7 ⟨rfl, rfl⟩
      cases r with
      | false =>
       obtain rfl : ans = false := by rw [HA.out]; exact all_take_no HX.out HRR.out
       go_wp2_with fail
       go_ret
       exact ⟨rfl, HK6.out⟩
      | true =>
       have HN := Lib.hid (all_take_more HAL.out HX.out HRR.out)
       go_wp2_with fail
       go_roundw
       case rel => (first | exact ⟨j + 1, by go_num, by omega, HN.out, HKL6.out⟩ | ((repeat apply Exists.intro); exact ⟨⟨j + 1, by go_num, by omega, HN.out, HKL6.out⟩, rfl⟩))
       case measure => simp [intOf]; omega
  ·have hltI : ¬ (j : Int) < (M.length : Int) := by omega
   obtain rfl : ans = true := by
    rw [HA.out]
    have := HAL.out
    rwa [List.take_of_length_le (by omega)] at this
   go_wp2_with fail
   go_ret
   exact ⟨rfl, HK.out⟩
end Go.Proofs.YtjdkegfckkbpeaaGreatDoor
namespace Go.Proofs.YtjdkegfckkbpeaaGreatDoor
open Go.ChangeShapes Go.WideShapes Go.ChangeAt Go.RowKit
namespace Tab
def Q8 (t : List C) (P : Nat → Nat → Bool) (i k : Nat) : Prop := hoM (hoP t P) t (nth t i).name (nth t k).name = true
def K8 (t : List C) (i k : Nat) : Prop := Pre t ((nth t i).name, (nth t k).name)
end Tab
set_option maxHeartbeats 16000000 in
theorem rgr8_c (t : List Tab.C) (a : Option Addr) (cp : Nat) (w : World) (h : TabAt w (.slice a t.length cp) t) (hS : Small t) (hv : Tab.Valid t) :
  Calls Tryz.prog 45 #[.slice a t.length cp] w fun e w' => ∃ v P, e = .returned v ∧ MatV t.length P v w' ∧ (∀ i k, i < t.length → k < t.length → (P i k = true ↔ Tab.K8 t i k)) ∧ Kept w w' := by
 obtain ⟨ir, hir, hrz, hrs, hrb⟩ := info_parts info_br8
 obtain ⟨ib, hib, hbz, hbs, hbb⟩ := info_parts info_bo8
 have hlen := hS.len
 have HT := Lib.hid h
 have HM := Lib.hid (fun (P : Nat → Nat → Bool) (v : Value) (i k : Nat) (hi : i < t.length) (hk : k < t.length) (W : World) (kk : Kept w W) (hm : MatV t.length P v W) => rmem8_c t a cp P v (Tab.nth t i).name (Tab.nth t k).name W (tab_kept h kk) hS hv (hv.isC hi) (hv.isC hk) hm)
 have HKEEP := Lib.hid (fun (P : Nat → Nat → Bool) (hP : ∀ a b, a < t.length → b < t.length → Tab.K8 t a b → P a b = true) (i k : Nat) (hi : i < t.length) (hk : k < t.length) (hK : Tab.K8 t i k) => (show Tab.Q8 t P i k from Tab.hoP_keep hv hP hi hk hK))
 have HEND := Lib.hid (fun (P : Nat → Nat → Bool) (hE : ∀ i k, i < t.length → k < t.length → P i k = true → Tab.Q8 t P i k) (i k : Nat) (hi : i < t.length) (hk : k < t.length) (hp : P i k = true) => (show Tab.K8 t i k from Tab.hoP_end hv hE hi hk hp))
 have HQ := Lib.hid (fun (P : Nat → Nat → Bool) (i k : Nat) => (show Tab.Q8 t P i k ↔ Tab.hoM (Tab.hoP t P) t (Tab.nth t i).name (Tab.nth t k).name = true from Iff.rfl))
 have HNM := Lib.hid (fun (i : Nat) (hi : i < t.length) => (show t[i]? = some (Tab.nth t i) from Tab.of_nth hi))
 generalize Tab.K8 t = K at HKEEP HEND ⊢
 generalize Tab.Q8 t = Q at HKEEP HEND HQ
 obtain ⟨n, hn⟩ : ∃ n, t.length = n := ⟨_, rfl⟩
 rw [hn] at hlen HT HM HKEEP HEND HNM ⊢
 obtain ⟨base, hbase⟩ : ∃ b, w.heap.size = b := ⟨_, rfl⟩
 have HBASE := Lib.hid hbase
 clear h hS hv hn hbase
 go_enter Tryz.func45, Tryz.ntmps45
 go_wp2_with fail
 go_loopw [3, 4] (fun p q wr => ∃ (i : Nat) (bs : List Nat), q = .int .i64 i ∧ i ≤ n ∧ bs.length = i ∧ MatB base n bs (fun _ _ => true) p wr ∧ Kept w wr) (fun p q wr => n - (intOf q).toNat)
 case atStart => exact ⟨0, [], rfl, Nat.zero_le _, rfl, MatB.nil _ _ _ _, Kept.refl _⟩
 case round =>
  obtain ⟨i, bs, rfl, hi, hbl, hmb, hk⟩ := hrel
  obtain ⟨wo, rfl⟩ : ∃ wo, wo = wr := ⟨_, rfl⟩
  obtain ⟨pa, pn, pc, rfl⟩ := owns_slice hmb.1
  have HMB := Lib.hid hmb
  have HK := Lib.hid hk
  have HBL := Lib.hid hbl
  clear hmb hk hbl
  by_cases hlt : i < n
  ·have hltI : (i : Int) < (n : Int) := by omega
   have HSZ := Lib.hid (show base ≤ wo.heap.size from HBASE.out ▸ HK.out.size)
   go_wp2_with (at_make; refine wpList_make_full _ rfl (.tmp 17) (.tmp 17) 116 rfl base 4 ib _ 1 Tryz.underlying116 hib hbz hbs .i64 .i64 _ _ n rfl rfl rfl rfl (by rw [hbb]; omega) (by unfold maxLen; omega) HSZ.out ?_)
   intro w1 hown hgrow
   obtain ⟨b, hb⟩ : ∃ b, wo.heap.size = b := ⟨_, rfl⟩
   rw [hb] at hown ⊢
   have HRW := Lib.hid (RowB.made (b := b) (by rw [Nat.mul_one]; exact hown))
   have HK1 := Lib.hid ((Kept.refl wo).grown hgrow fun k e => by cases e)
   have HMB1 := Lib.hid (HMB.out.keep HK1.out)
   have HNE1 := Lib.hid (fun g (e : (Value.slice pa pn pc).ownBlock = some g) => show ¬ g = b by have := (own_geC HMB.out.1 e).2; omega)
   have HNE2 := Lib.hid (fun c (e : c ∈ bs) => show ¬ c = b by have := HMB.out.lt c e; omega)
   have HBB := Lib.hid hb
   clear hown hgrow hb
   go_wp2_with fail
   go_loopw [6] (fun q wr => ∃ j : Nat, q = .int .i64 j ∧ j ≤ n ∧ RowB base n (fun k => decide (k < j)) b wr ∧ Only (· = b) w1 wr) (fun q wr => n - (intOf q).toNat)
   case atStart => exact ⟨0, rfl, Nat.zero_le _, HRW.out, Only.refl _ _⟩
   case round =>
    obtain ⟨j, rfl, hj, hr, ho⟩ := hrel
    obtain ⟨wj, rfl⟩ : ∃ wj, wj = wr := ⟨_, rfl⟩
    have HR := Lib.hid hr
    have HO := Lib.hid ho
    clear hr ho
    by_cases hjt : j < n
    ·have hjI : (j : Int) < (n : Int) := by omega
     have c0 := HR.out.cell hjt
     have f0 := HR.out.frz j
     have HRN := Lib.hid (HR.out.set (g := fun k => decide (k < j + 1)) hjt true fun q hq => by
      by_cases e : q = j
      ·subst e; simp
      ·rw [if_neg e]; simp; omega)
     have HON := Lib.hid (HO.out.put j (.bool true))
     go_wp2_with fail
     go_roundw
     case rel => (first | exact ⟨j + 1, by go_num, by omega, HRN.out, HON.out⟩ | ((repeat apply Exists.intro); exact ⟨⟨j + 1, by go_num, by omega, HRN.out, HON.out⟩, rfl⟩))
     case measure => simp [intOf]; omega
    ·have hjI : ¬ (j : Int) < (n : Int) := by omega
     obtain rfl : j = n := by omega
     have HRT := Lib.hid (HR.out.congr (g := fun _ => true) fun k hk => by simp [hk])
     have HMB2 := Lib.hid (HMB1.out.only HO.out HNE1.out HNE2.out)
     have HK2 := Lib.hid ((HK.out.trans HK1.out).only HO.out HBASE.out.symm fun k e => by rw [e]; exact HBB.out ▸ HSZ.out)
     obtain ⟨w2, hw2⟩ : ∃ w2, w2 = wj.alloc (.cells #[.slice (some ⟨b, 0, none⟩) j j] 116) := ⟨_, rfl⟩
     have HRX := Lib.hid (own_only (S := fun _ => False) HMB2.out.1 ((Only.refl _ wj).alloc (.cells #[.slice (some ⟨b, 0, none⟩) j j] 116)) (fun _ _ h => h))
     have HSX := Lib.hid (src_rw8 wj j b)
     have HSZ2 := Lib.hid (show base ≤ wj.heap.size from HBASE.out ▸ HK2.out.size)
     have HGE := Lib.hid (fun g (e : (Value.slice pa pn pc).ownBlock = some g) => (own_geC HMB2.out.1 e).1)
     clear hw2
     go_wp2_with (at_builtin; refine wpList_apk rfl (.tmp 28) (.tmp 30) 85 85 rfl base 1 116 ir _ 24 Tryz.underlying85 hir hrz hrs hrb rfl rfl HRX.out rfl HSX.out (by rw [HBL.out]; unfold maxLen; omega) (by rw [HBL.out]; omega) (by have := HSZ2.out; simp; omega) ?_; intro v' w3 hown' hgrow hlies; have HN := Lib.hid (HMB2.out.push HRT.out (fun e => HNE2.out b e rfl) ((Kept.refl wj).alloc (.cells #[.slice (some ⟨b, 0, none⟩) j j] 116)) hgrow hown'); have HK3 := Lib.hid ((HK2.out.alloc (.cells #[.slice (some ⟨b, 0, none⟩) j j] 116)).grown hgrow fun k e => HBASE.out ▸ HGE.out k e); obtain ⟨va', vn', vc', rfl⟩ := owns_slice hown'; clear hown' hgrow hlies)
     go_roundw
     case rel => (first | exact ⟨i + 1, bs ++ [b], by go_num, by omega, by rw [List.length_append, HBL.out]; rfl, HN.out, HK3.out⟩ | ((repeat apply Exists.intro); exact ⟨⟨i + 1, bs ++ [b], by go_num, by omega, by rw [List.length_append, HBL.out]; rfl, HN.out, HK3.out⟩, rfl⟩))
     case measure => simp [intOf]; omega
  ·have hltI : ¬ (i : Int) < (n : Int) := by omega
   obtain rfl : i = n := by omega
   obtain ⟨_, _, epn⟩ := owns_slice_n HMB.out.1
   injection epn with epa epn epc
   obtain rfl : i = pn := by rw [epn, HBL.out]
   clear epn epa epc
   have HG0 := Lib.hid (show GrS K i base w bs (.slice pa i pc) (fun _ _ => true) wo from ⟨HMB.out, HK.out, Lib.hid fun _ _ _ _ _ => rfl⟩)
   clear hltI
   go_wp2_with fail
   go_loopg [7] (2 * (i * i) + 2) (fun G q wr => ∃ (ag : Bool) (P : Nat → Nat → Bool), q = .bool ag ∧ GrS K i base w bs (.slice pa i pc) P wr ∧ Hid (2 * Tab.cntM i P + (if ag = true then 1 else 0) < G) ∧ Hid (ag = false → ∀ x k, x < i → k < i → P x k = true → Q P x k))
   case atStart => exact ⟨true, _, rfl, HG0.out, Lib.hid (by have := Tab.cnt_le i (fun _ _ => true); simp; omega), Lib.hid (fun e => by cases e)⟩
   case round =>
    obtain ⟨ag, P, rfl, hG, hm, hE⟩ := hrel
    obtain ⟨wa, rfl⟩ : ∃ wa, wa = wr := ⟨_, rfl⟩
    have HG := Lib.hid hG
    clear hG
    cases ag with
    | false =>
     have HIFF := Lib.hid (show ∀ x k, x < i → k < i → (P x k = true ↔ K x k) from fun x k hx hk => ⟨HEND.out P (fun x k hx hk hp => hE.out rfl x k hx hk hp) x k hx hk, HG.out.2.2.out x k hx hk⟩)
     have HV := Lib.hid (HG.out.1.view HBL.out)
     clear hm hE
     go_wp2_with fail
     go_ret
     exact ⟨_, P, rfl, HV.out, HIFF.out, HG.out.2.1⟩
    | true =>
     have HMS := hm
     clear hm hE
     go_wp2_with fail
     go_loopw [7, 8] (fun q7 q8 wr => ∃ (ag : Bool) (x : Nat) (P' : Nat → Nat → Bool), q7 = .bool ag ∧ q8 = .int .i64 x ∧ x ≤ i ∧ GrS K i base w bs (.slice pa i pc) P' wr ∧ Hid (Tab.MdG Q i P P' ag (fun c d => c < x ∧ d < i))) (fun q7 q8 wr => i - (intOf q8).toNat)
     case atStart => exact ⟨false, 0, P, rfl, rfl, Nat.zero_le _, HG.out, Lib.hid (Tab.MdG.start fun c d e => absurd e.1 (Nat.not_lt_zero _))⟩
     case round =>
      obtain ⟨ag, x, P1, rfl, rfl, hx, hG, hMD⟩ := hrel
      obtain ⟨wb, rfl⟩ : ∃ wb, wb = wr := ⟨_, rfl⟩
      have HG1 := Lib.hid hG
      clear hG
      by_cases hxl : x < i
      ·have hxI : (x : Int) < (i : Int) := by omega
       go_wp2_with fail
       go_loopw [7, 9] (fun q7 q9 wr => ∃ (ag : Bool) (y : Nat) (P' : Nat → Nat → Bool), q7 = .bool ag ∧ q9 = .int .i64 y ∧ y ≤ i ∧ GrS K i base w bs (.slice pa i pc) P' wr ∧ Hid (Tab.MdG Q i P P' ag (fun c d => (c < x ∧ d < i) ∨ (c = x ∧ d < y)))) (fun q7 q9 wr => i - (intOf q9).toNat)
       case atStart => exact ⟨ag, 0, P1, rfl, rfl, Nat.zero_le _, HG1.out, Lib.hid (hMD.out.keep fun c d e => .inl (by omega))⟩
       case round =>
        obtain ⟨ag, y, P2, rfl, rfl, hy, hG, hMD2⟩ := hrel
        obtain ⟨wc, rfl⟩ : ∃ wc, wc = wr := ⟨_, rfl⟩
        have HG2 := Lib.hid hG
        clear hG
        by_cases hyl : y < i
        ·have hyI : (y : Int) < (i : Int) := by omega
         obtain ⟨g, c, b, hv1, hc1, hc2, hbx, hcell, hrow⟩ := HG2.out.1.at HBL.out hxl
         injection hv1 with hv1 hv2 hv3
         subst hv1
         obtain rfl := hv3.symm
         clear hv2
         have c1 := hrow.cell hyl
         obtain ⟨_, _, et, _, _, hat⟩ := tab_kept HT.out HG2.out.2.1
         obtain ⟨tb, to, e1, cx, _⟩ := hat x _ (HNM.out x hxl)
         obtain ⟨tb', to', e2, cy, _⟩ := hat y _ (HNM.out y hyl)
         injection et with et1 et2 et3
         subst et1
         rw [e1] at e2
         injection e2 with e2
         injection e2 with e2 e3
         subst e2 e3 e1
         unfold maxLen at hc2
         have HBX := Lib.hid hbx
         obtain ⟨pxy, hpxy⟩ : ∃ z, P2 x y = z := ⟨_, rfl⟩
         rw [hpxy] at c1
         have HPXY := Lib.hid hpxy
         have HMM := Lib.hid (HM.out P2 (.slice (some ⟨g, 0, none⟩) i c) x y hxl hyl wc.drew HG2.out.2.1.drew ((HG2.out.1.view HBL.out).kept ((Kept.refl wc).drew)))
         have HKE := Lib.hid (fun (e : K x y) => (HQ.out P2 x y).1 (HKEEP.out P2 HG2.out.2.2.out x y hxl hyl e))
         have HQQ := Lib.hid (HQ.out P2 x y)
         generalize (Tab.nth t x).name = sx at cx HMM HKE HQQ
         generalize (Tab.nth t y).name = sy at cy HMM HKE HQQ
         obtain ⟨r, hr⟩ : ∃ r, Tab.hoM (Tab.hoP t P2) t sx sy = r := ⟨_, rfl⟩
         rw [hr] at HMM HKE HQQ
         clear et2 et3 hat hbx hpxy hr hrow
         cases pxy with
         | false =>
          have HN := Lib.hid (hMD2.out.keep (done' := fun c d => (c < x ∧ d < i) ∨ (c = x ∧ d < y + 1)) fun c d e => by
           by_cases e2 : d = y ∧ c = x
           ·obtain ⟨rfl, rfl⟩ := e2
            exact .inr fun e => by rw [HPXY.out] at e; cases e
           ·exact .inl (by omega))
          have HG3 := Lib.hid (HG2.out.keep ((Kept.refl wc).drew))
          have s0 := ((Kept.refl wc).drew).cell hcell
          have s1 := ((Kept.refl wc).drew).cell c1
          go_wp2_with fail
          refine wp_region_held_drew (S := (fun W => W.cell? ⟨g, x, none⟩ = some (.slice (some ⟨b, 0, none⟩) i i) ∧ W.cell? ⟨b, y, none⟩ = some (.bool false) ∧ Kept wc W)) (by kernel_rfl) ⟨s0, s1, (Kept.refl wc).drew⟩ (fun hHeld0 => ?_)
          clear s0 s1 hcell c1 cx cy
          refine nkH 0 ?_
          refine nkH 1 ?_
          refine nkH 2 ?_
          refine nkH 3 ?_
          refine nkH 4 ?_
          refine nkH 5 ?_
          refine nkH 6 ?_
          refine nkH 7 ?_
          refine nkS 8 ?_
          refine nkS 9 ?_
          refine nkS 10 ?_
          refine nkS 11 ?_
          refine nkS 12 ?_
          refine nkS 13 ?_
          refine nkS 14 ?_
          refine nkS 15 ?_
          refine nkS 16 ?_
          refine nkS 17 ?_
          refine nkS 18 ?_
          refine nkS 19 ?_
          refine nkS 20 ?_
          refine nkS 21 ?_
          refine nkH 22 ?_
          refine wpAnyH_done (by kernel_rfl) ?_ _
          clear hHeld0
          go_wp2_with fail
          go_roundw
          case rel => (first | exact ⟨ag, y + 1, P2, rfl, by go_num, by omega, HG3.out, HN⟩ | ((repeat apply Exists.intro); exact ⟨⟨ag, y + 1, P2, rfl, by go_num, by omega, HG3.out, HN⟩, rfl⟩))
          case measure => simp [intOf]; omega
         | true =>
          go_wp2_with fail
          go_still_tail 20, (by kernel_rfl)
          change wpList _ _ _ _ _ wc.drew
          go_wp2_with fail
          refine HMM.out.mono ?_
          rintro e w7 ⟨rfl, k7⟩
          have HG3 := Lib.hid (HG2.out.keep (((Kept.refl wc).drew).trans k7))
          have h1 := k7.cell hcell
          have h2 := k7.cell c1
          clear k7 hcell c1
          cases r with
          | true =>
           have HN := Lib.hid (hMD2.out.keep (done' := fun c d => (c < x ∧ d < i) ∨ (c = x ∧ d < y + 1)) fun c d e => by
            by_cases e2 : d = y ∧ c = x
            ·obtain ⟨rfl, rfl⟩ := e2
             exact .inr fun e => HQQ.out.2 rfl
            ·exact .inl (by omega))
           go_wp2_with fail
           go_roundw
           case rel => (first | exact ⟨ag, y + 1, P2, rfl, by go_num, by omega, HG3.out, HN⟩ | ((repeat apply Exists.intro); exact ⟨⟨ag, y + 1, P2, rfl, by go_num, by omega, HG3.out, HN⟩, rfl⟩))
           case measure => simp [intOf]; omega
          | false =>
           have HNK := Lib.hid (show ¬ K x y from fun e => by have := HKE.out e; cases this)
           have HN := Lib.hid (hMD2.out.off (done' := fun c d => (c < x ∧ d < i) ∨ (c = x ∧ d < y + 1)) hxl hyl HPXY.out)
           have HG4 := Lib.hid (HG3.out.off HBASE.out HBX.out hyl HNK.out)
           have f0 := (HG3.out.1.2.2 x b HBX.out).frz y
           go_wp2_with fail
           go_roundw
           case rel => (first | exact ⟨true, y + 1, _, rfl, by go_num, by omega, HG4.out, HN⟩ | ((repeat apply Exists.intro); exact ⟨⟨true, y + 1, _, rfl, by go_num, by omega, HG4.out, HN⟩, rfl⟩))
           case measure => simp [intOf]; omega
        ·have hyI : ¬ (y : Int) < (i : Int) := by omega
         obtain rfl : y = i := by omega
         have HN := Lib.hid (hMD2.out.keep (done' := fun c d => c < x + 1 ∧ d < y) fun c d e => .inl (by omega))
         go_wp2_with fail
         go_roundw
         case rel => (first | exact ⟨ag, x + 1, P2, rfl, by go_num, by omega, HG2.out, HN⟩ | ((repeat apply Exists.intro); exact ⟨⟨ag, x + 1, P2, rfl, by go_num, by omega, HG2.out, HN⟩, rfl⟩))
         case measure => simp [intOf]; omega
      ·have hxI : ¬ (x : Int) < (i : Int) := by omega
       obtain rfl : x = i := by omega
       have HE := Lib.hid (hMD.out.end fun c d hc hd => ⟨hc, hd⟩)
       go_wp2_with fail
       go_roundg (2 * Tab.cntM x P1 + (if ag = true then 1 else 0) + 1)
       case rel => (first | exact ⟨ag, P1, rfl, HG1.out, Lib.hid (Nat.lt_succ_self _), Lib.hid fun e => HE.out.2 e⟩ | ((repeat apply Exists.intro); exact ⟨⟨ag, P1, rfl, HG1.out, Lib.hid (Nat.lt_succ_self _), Lib.hid fun e => HE.out.2 e⟩, rfl⟩))
       case measure => have := HE.out.1; have := HMS.out; simp at this; omega
end Go.Proofs.YtjdkegfckkbpeaaGreatDoor
namespace Go.Proofs.YtjdkegfckkbpeaaGreatDoor
open Go.ChangeShapes Go.WideShapes Go.ChangeAt Go.RowKit
set_option maxHeartbeats 4000000 in
theorem rprec8_c (t : List Tab.C) (a : Option Addr) (cp : Nat) (s u : ByteArray) (w : World) (h : TabAt w (.slice a t.length cp) t) (hS : Small t) :
  Calls Tryz.prog 29 #[.slice a t.length cp, .string s, .string u] w fun e w' => e = .returned (.bool (Tab.precise t s u)) ∧ Kept w w' := by
 have HC := rcheck_c t a cp w h hS
 have HO := Lib.hid (Tab.rCheck_is t)
 have HZ := Lib.hid (@Tab.rCheck_zero t)
 have HTs := Lib.hid (fun (W : World) (k : Kept w W) => rtyped6_c t (.slice a t.length cp) s W (tab_kept h k))
 have HTu := Lib.hid (fun (W : World) (k : Kept w W) => rtyped6_c t (.slice a t.length cp) u W (tab_kept h k))
 have HG := Lib.hid (fun (ho : Tab.ok t = true) (W : World) (k : Kept w W) => rgr8_c t a cp W (tab_kept h k) hS (Tab.ok_valid ho))
 have HH := Lib.hid (fun (P : Nat → Nat → Bool) (v : Value) (W : World) (k : Kept w W) (hm : MatV t.length P v W) => rhold8_c t a cp P v s u W (tab_kept h k) hm)
 have HE := Lib.hid (show Tab.precise t s u = (Tab.isT t s && Tab.isT t u && Tab.ok t && Tab.pcs t (s, u)) from rfl)
 have HPR := Lib.hid (fun (ho : Tab.ok t = true) (hs : Tab.isT t s = true) (hu : Tab.isT t u = true) (P : Nat → Nat → Bool) (hP : ∀ i k, i < t.length → k < t.length → (P i k = true ↔ Tab.K8 t i k)) => (show Tab.precise t s u = Tab.hoP t P s u from Tab.hoP_precise ho hP hs hu))
 generalize Tab.precise t s u = ans at HE HPR ⊢
 cases ho : Tab.ok t with
 | false =>
  obtain rfl : ans = false := by rw [HE.out, ho]; simp
  rw [ho] at HO
  generalize Tab.rCheck t = ck at HC HO HZ
  obtain ⟨fe, fa⟩ := ck
  dsimp only at HC
  have hz : ¬ fe = 0 := fun e => by
   have h1 := HZ.out e
   have h2 := HO.out
   rw [h1] at h2
   cases h2
  have hb : (fe == 0) = false := by simpa using hz
  have HC := Lib.hid HC
  clear h hS hz ho HPR HE
  go_enter Tryz.func29, Tryz.ntmps29
  go_wp2_with fail
  refine HC.out.mono ?_
  rintro e w1 ⟨rfl, k1⟩
  go_wp2_with fail
  go_ret
  exact ⟨rfl, k1⟩
 | true =>
  rw [ho] at HO
  have hz : Tab.rCheck t = (0, 0) := of_decide_eq_true HO.out
  rw [hz] at HC
  dsimp only at HC
  have HC := Lib.hid HC
  have HG2 := Lib.hid (HG.out ho)
  have HPR2 := Lib.hid (HPR.out ho)
  clear h hS hz HO HZ HG HPR
  cases hts : Tab.isT t s with
  | false =>
   obtain rfl : ans = false := by rw [HE.out, hts]; simp
   rw [hts] at HTs
   clear hts ho HE HPR2
   go_enter Tryz.func29, Tryz.ntmps29
   go_wp2_with fail
   refine HC.out.mono ?_
   rintro e w1 ⟨rfl, k1⟩
   have HK1 := Lib.hid k1
   clear k1
   go_wp2_with fail
   refine (HTs.out _ HK1.out).mono ?_
   rintro e w2 ⟨rfl, k2⟩
   go_wp2_with fail
   go_ret
   exact ⟨rfl, HK1.out.trans k2⟩
  | true =>
   rw [hts] at HTs
   cases htu : Tab.isT t u with
   | false =>
    obtain rfl : ans = false := by rw [HE.out, htu]; simp
    rw [htu] at HTu
    clear hts htu ho HE HPR2
    go_enter Tryz.func29, Tryz.ntmps29
    go_wp2_with fail
    refine HC.out.mono ?_
    rintro e w1 ⟨rfl, k1⟩
    have HK1 := Lib.hid k1
    clear k1
    go_wp2_with fail
    refine (HTs.out _ HK1.out).mono ?_
    rintro e w2 ⟨rfl, k2⟩
    have HK2 := Lib.hid (HK1.out.trans k2)
    clear k2
    go_wp2_with fail
    refine (HTu.out _ HK2.out).mono ?_
    rintro e w3 ⟨rfl, k3⟩
    go_wp2_with fail
    go_ret
    exact ⟨rfl, HK2.out.trans k3⟩
   | true =>
    rw [htu] at HTu
    have HAN := Lib.hid (HPR2.out hts htu)
    clear hts htu ho HE HPR2
    go_enter Tryz.func29, Tryz.ntmps29
    go_wp2_with fail
    refine HC.out.mono ?_
    rintro e w1 ⟨rfl, k1⟩
    have HK1 := Lib.hid k1
    clear k1
    go_wp2_with fail
    refine (HTs.out _ HK1.out).mono ?_
    rintro e w2 ⟨rfl, k2⟩
    have HK2 := Lib.hid (HK1.out.trans k2)
    clear k2
    go_wp2_with fail
    refine (HTu.out _ HK2.out).mono ?_
    rintro e w3 ⟨rfl, k3⟩
    have HK3 := Lib.hid (HK2.out.trans k3)
    clear k3
    go_wp2_with fail
    refine (HG2.out _ HK3.out).mono ?_
    rintro e w4 ⟨v, P, rfl, hm, hP, k4⟩
    have HK4 := Lib.hid (HK3.out.trans k4)
    have HHH := Lib.hid (HH.out P v w4 HK4.out hm)
    have HA := Lib.hid (HAN.out P hP)
    obtain ⟨va, vc, rfl, _⟩ := hm
    generalize Tab.hoP t P s u = r at HHH HA
    clear hP k4
    go_wp2_with fail
    refine HHH.out.mono ?_
    rintro e w5 ⟨rfl, rfl⟩
    go_wp2_with fail
    go_ret
    exact ⟨by rw [HA.out]; first | done | rfl, HK4.out⟩
end Go.Proofs.YtjdkegfckkbpeaaGreatDoor
