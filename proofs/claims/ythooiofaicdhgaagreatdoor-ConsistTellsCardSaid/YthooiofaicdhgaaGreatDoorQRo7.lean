/- The document's own answers about types (chaperonref06): may, Sub, Join, Below, Leaf. The document's own answers about consistency (chaperonref07): has, sub, goes; and what holds sees of a member, in plain words. The document's own answers about consistency (chaperonref07): holds. The document's own answers about consistency (chaperonref07): greatest. The document's own answers about consistency (chaperonref07): typed, Has, Goes. -/
import Derived.Test.YthooiofaicdhgaaGreatDoorQRck
import Derived.Test.YthooiofaicdhgaaGreatDoorQRfs
import Derived.Test.YthooiofaicdhgaaGreatDoorQRmx
import Derived.StillTailTactics
import Derived.Deep.LoopGhost
import Derived.OwnWalk
set_option linter.unusedSimpArgs false
set_option linter.unusedVariables false
set_option maxRecDepth 100000
namespace Go.Proofs.YthooiofaicdhgaaGreatDoor
open Go.ChangeShapes Go.WideShapes Go.ChangeAt Go.RowKit
namespace Tab
theorem lineNo {t : List C} {s : ByteArray} (h : isC t s = false) : line t s = [] := by
 unfold line
 refine lineF_none ?_
 unfold isC at h
 unfold at'
 cases e : ix C.name t s with
 | none => rfl
 | some _ => rw [e] at h; cases h
theorem supersNo {t : List C} {s : ByteArray} (h : isC t s = false) : supers t s = [] := by unfold supers; rw [lineNo h]; rfl
theorem up_sup {t : List C} {s : ByteArray} (h : isC t s = true) : up t s = supers t s := by unfold up; rw [h]; rfl
theorem up_non' {t : List C} {s : ByteArray} (h : isC t s = false) : up t s = [s] := by unfold up; rw [h]; rfl
theorem up_inS {t : List C} {s u : ByteArray} (h : ¬ s = u) : decide (u ∈ up t s) = Go.Proofs.YthooiofaicdhgaaGreatDoor.inL (supers t s) u := by
 rw [Bool.eq_iff_iff, decide_eq_true_iff]
 unfold Go.Proofs.YthooiofaicdhgaaGreatDoor.inL
 rw [List.any_eq_true]
 cases hc : isC t s with
 | true => rw [up_sup hc]; exact ⟨fun k => ⟨u, k, decide_eq_true rfl⟩, fun ⟨x, hx, e⟩ => by obtain rfl := of_decide_eq_true e; exact hx⟩
 | false =>
  rw [up_non' hc, supersNo hc]
  exact ⟨fun k => absurd (List.mem_singleton.1 k).symm h, fun ⟨x, hx, _⟩ => by cases hx⟩
end Tab
end Go.Proofs.YthooiofaicdhgaaGreatDoor
namespace Go.Proofs.YthooiofaicdhgaaGreatDoor
open Go.ChangeShapes Go.WideShapes Go.ChangeAt Go.RowKit
namespace Tab
def aryOk (t : List C) (s : ByteArray) (m : Mb ByteArray) : Bool := decide (aryR t s m.name = some m.ar)
theorem ary_alike {t : List C} (hv : Valid t) {s : ByteArray} (hs : isC t s = true) (m : Mb ByteArray) : ((mbs t s).any fun x => alike x m) = aryOk t s m := by
 unfold aryOk
 by_cases hx : ∃ x ∈ mbs t s, x.name = m.name
 ·obtain ⟨x, hx, hn⟩ := hx
  have h1 := aryR_at (isC_good hv hs) hx
  rw [hn] at h1
  rw [h1]
  by_cases ha : x.ar = m.ar
  ·rw [decide_eq_true (by rw [ha]), List.any_eq_true]
   exact ⟨x, hx, alike_iff.2 ⟨hn, ha⟩⟩
  ·rw [decide_eq_false (fun e => ha (Option.some.inj e)), List.any_eq_false]
   intro y hy e
   have : y = x := mbs_unique hv hs hy hx (by rw [(alike_iff.1 e).1, hn])
   subst this
   exact ha (alike_iff.1 e).2
 ·rw [aryR_no fun x hx' e => hx ⟨x, hx', e⟩, decide_eq_false (by simp), List.any_eq_false]
  intro y hy e
  exact hx ⟨y, hy, (alike_iff.1 e).1⟩
theorem hasB_ary {t : List C} (hv : Valid t) {s : ByteArray} (hs : isC t s = true) (u : ByteArray) : hasB (mbs t s) (mbs t u) = (mbs t u).all (aryOk t s) := by
 unfold hasB
 exact all_mem fun m _ => ary_alike hv hs m
theorem has_fld {t : List C} (hv : Valid t) {s u : ByteArray} (hs : isC t s = true) (hb : hasB (mbs t s) (mbs t u) = true) {f : V} (hf : f ∈ fields t u) : fldR t s f.name = some (fdD t s f.name) := by
 obtain ⟨x, hx, ha⟩ := hasB_iff.1 hb (mbF f) (by unfold mbs; exact List.mem_append_left _ (List.mem_map.2 ⟨f, hf, rfl⟩))
 have g := isC_good hv hs
 unfold mbs at hx
 obtain ⟨e1, e2⟩ := alike_iff.1 ha
 rcases List.mem_append.1 hx with h | h
 ·obtain ⟨y, hy, rfl⟩ := List.mem_map.1 h
  have e1 : y.name = f.name := e1
  unfold fdD
  rw [← e1, g.fd y hy, fldR_at g hy]
  rfl
 ·obtain ⟨y, hy, rfl⟩ := List.mem_map.1 h
  have e2 : (y.params.length : Int) = -1 := e2
  omega
theorem has_mth {t : List C} (hv : Valid t) {s u : ByteArray} (hs : isC t s = true) (hb : hasB (mbs t s) (mbs t u) = true) {q : M} (hq : q ∈ methods t u) : ∃ o, method t s q.name = some (mtD t s q.name, o) ∧ (mtD t s q.name).params.length = q.params.length := by
 obtain ⟨x, hx, ha⟩ := hasB_iff.1 hb (mbM q) (by unfold mbs; exact List.mem_append_right _ (List.mem_map.2 ⟨q, hq, rfl⟩))
 have g := isC_good hv hs
 unfold mbs at hx
 obtain ⟨e1, e2⟩ := alike_iff.1 ha
 rcases List.mem_append.1 hx with h | h
 ·obtain ⟨y, hy, rfl⟩ := List.mem_map.1 h
  have e2 : (-1 : Int) = (q.params.length : Int) := e2
  omega
 ·obtain ⟨y, hy, rfl⟩ := List.mem_map.1 h
  have e1 : y.name = q.name := e1
  have e2 : (y.params.length : Int) = (q.params.length : Int) := e2
  obtain ⟨j, _, hm⟩ := g.md y hy
  have e : mtD t s q.name = y := by unfold mtD; rw [← e1, hm]; rfl
  refine ⟨(nth t j).name, ?_, by rw [e]; omega⟩
  rw [e, ← e1]
  exact hm
end Tab
theorem all_take_no7 {α : Type} {p : α → Bool} {l : List α} {j : Nat} {x : α} (hx : l[j]? = some x) (hp : p x = false) : l.all p = false := by
 rw [← Bool.not_eq_true, List.all_eq_true]
 intro h
 rw [h x (List.mem_of_getElem? hx)] at hp
 cases hp
theorem all_take_more7 {α : Type} {p : α → Bool} {l : List α} {j : Nat} {x : α} (h : (l.take j).all p = true) (hx : l[j]? = some x) (hp : p x = true) : (l.take (j + 1)).all p = true := by
 rw [List.take_add_one, hx, List.all_append, h]
 simp [hp]
set_option maxHeartbeats 8000000 in
theorem rhas7_c (t : List Tab.C) (a : Option Addr) (cp : Nat) (s u : ByteArray) (w : World) (h : TabAt w (.slice a t.length cp) t) (hS : Small t) (hv : Tab.Valid t) (hs : Tab.isC t s = true) :
  Calls Tryz.prog 92 #[.slice a t.length cp, .string s, .string u] w fun e w' => e = .returned (.bool (Tab.hasB (Tab.mbs t s) (Tab.mbs t u))) ∧ Kept w w' := by
 have HAR := Lib.hid (fun (nm : ByteArray) (W : World) (k : Kept w W) => rarity_c t a cp s nm W (tab_kept h k) hS)
 have HMB := Lib.hid (rmembers_c t a cp u w h hS)
 have HML := Lib.hid (show (Tab.members t u).length ≤ 2000 * 1000 by
  have h1 := fields_le hS u
  have h2 := methods_le hS u
  unfold Tab.members
  simp
  omega)
 have HTO := Lib.hid (Tab.mbs_told t u)
 have HA := Lib.hid (Tab.hasB_ary hv hs u)
 have HOK := Lib.hid (fun (m : Tab.Mb ByteArray) => (show Tab.aryOk t s m = decide (Tab.aryR t s m.name = some m.ar) from rfl))
 generalize Tab.hasB (Tab.mbs t s) (Tab.mbs t u) = ans at HA ⊢
 generalize Tab.aryOk t s = ok at HA HOK
 generalize Tab.members t u = M at HMB HML HTO
 have hml := HML.out
 obtain ⟨B, hB⟩ : ∃ B, Tab.mbs t u = B := ⟨_, rfl⟩
 rw [hB] at HTO HA
 have hbl : B.length = M.length := by rw [← HTO.out, List.length_map]
 clear h hS hv hs hB
 go_enter Tryz.func92, Tryz.ntmps92
 go_wp2_with fail
 refine HMB.out.mono ?_
 rintro e w1 ⟨mv, rfl, hr1, k1⟩
 obtain ⟨ra, rc, rfl⟩ := owns_slice_n hr1
 have HR1 := Lib.hid hr1
 have HK1 := Lib.hid k1
 clear hr1 k1
 go_wp2_with fail
 go_loopw [8] (fun q wr => ∃ j : Nat, q = .int .i64 j ∧ j ≤ M.length ∧ (B.take j).all ok = true ∧ Kept w1 wr) (fun q wr => M.length - (intOf q).toNat)
 case atStart => exact ⟨0, rfl, Nat.zero_le _, rfl, Kept.refl _⟩
 case round =>
  obtain ⟨j, rfl, hj, hal, hk⟩ := hrel
  obtain ⟨wo, rfl⟩ : ∃ wo, wo = wr := ⟨_, rfl⟩
  have HAL := Lib.hid hal
  have HKL := Lib.hid hk
  have HK := Lib.hid (HK1.out.trans hk)
  clear hal hk
  by_cases hlt : j < M.length
  ·have hltI : (j : Int) < (M.length : Int) := by omega
   have hx : B[j]? = some B[j] := List.getElem?_eq_getElem (by omega)
   generalize B[j] = m at hx
   have hmx : M[j]? = some (m.name, m.ar) := by rw [← HTO.out, List.getElem?_map, hx]; rfl
   obtain ⟨g, rfl, _⟩ := row_cells HR1.out (by omega)
   obtain ⟨d0, d1⟩ := mem_cells HR1.out hmx
   have c0 := HKL.out.cell d0
   have c1 := HKL.out.cell d1
   have HX := Lib.hid hx
   have HC := HAR.out m.name wo HK.out
   unfold AryPost at HC
   have HM := Lib.hid (HOK.out m)
   clear hx hmx d0 d1
   cases har : Tab.aryR t s m.name with
   | none =>
    rw [har] at HC HM
    have HCC := Lib.hid HC
    obtain rfl : ans = false := by rw [HA.out]; exact all_take_no7 HX.out (by rw [HM.out]; rfl)
    clear HC har
    go_wp2_with fail
    refine HCC.out.mono ?_
    rintro e w2 ⟨rfl, k2⟩
    have HK2 := Lib.hid (HK.out.trans k2)
    clear k2
    go_wp2_with fail
    go_ret
    exact ⟨rfl, HK2.out⟩
   | some n =>
    rw [har] at HC HM
    have HCC := Lib.hid HC
    obtain ⟨mn, hmn⟩ : ∃ x, m.ar = x := ⟨_, rfl⟩
    rw [hmn] at c1 HM
    clear HC har hmn
    by_cases hne : n = mn
    ·subst hne
     have HN := Lib.hid (all_take_more7 HAL.out HX.out (by rw [HM.out]; simp))
     go_wp2_with fail
     refine HCC.out.mono ?_
     rintro e w2 ⟨rfl, k2⟩
     have HKL2 := Lib.hid (HKL.out.trans k2)
     have c1' := k2.cell c1
     simp only [Option.getD_some, Option.isSome_some]
     clear k2 c1 c0
     go_wp2_with fail
     go_roundw
     case rel => (first | exact ⟨j + 1, by go_num, by omega, HN.out, HKL2.out⟩ | ((repeat apply Exists.intro); exact ⟨⟨j + 1, by go_num, by omega, HN.out, HKL2.out⟩, rfl⟩))
     case measure => simp [intOf]; omega
    ·have hnb : (n != mn) = true := by simp [hne]
     obtain rfl : ans = false := by rw [HA.out]; exact all_take_no7 HX.out (by rw [HM.out]; simp [hne])
     clear hne
     go_wp2_with fail
     refine HCC.out.mono ?_
     rintro e w2 ⟨rfl, k2⟩
     have HK2 := Lib.hid (HK.out.trans k2)
     have c1' := k2.cell c1
     simp only [Option.getD_some, Option.isSome_some]
     clear k2 c1 c0
     go_wp2_with fail
     go_ret
     exact ⟨rfl, HK2.out⟩
  ·have hltI : ¬ (j : Int) < (M.length : Int) := by omega
   obtain rfl : ans = true := by
    rw [HA.out]
    have := HAL.out
    rwa [List.take_of_length_le (by omega)] at this
   go_wp2_with fail
   go_ret
   exact ⟨rfl, HK.out⟩
set_option maxHeartbeats 4000000 in
theorem rsub7_c (t : List Tab.C) (a : Option Addr) (cp : Nat) (s u : ByteArray) (w : World) (h : TabAt w (.slice a t.length cp) t) (hS : Small t) (hv : Tab.Valid t) :
  Calls Tryz.prog 97 #[.slice a t.length cp, .string s, .string u] w fun e w' => e = .returned (.bool (decide (u ∈ Tab.up t s))) ∧ Kept w w' := by
 have HS := Lib.hid (rsupers_c t a cp s w h hS.len)
 have HL := Lib.hid (show (Tab.supers t s).length ≤ 1000 by
  unfold Tab.supers
  rw [List.length_map]
  exact Nat.le_trans (Tab.line_short t s) hS.len)
 by_cases hsu : s = u
 ·have hb := beq_yes hsu
  have ha : decide (u ∈ Tab.up t s) = true := decide_eq_true (by rw [hsu]; exact hv.up_self u)
  rw [ha]
  clear h hS hv hsu ha
  go_enter Tryz.func97, Tryz.ntmps97
  go_wp2_with fail
  go_ret
  exact ⟨rfl, Kept.refl _⟩
 ·have hb := beq_no hsu
  rw [Tab.up_inS hsu]
  generalize Tab.supers t s = l at HS HL ⊢
  have hl := HL.out
  clear h hS hv hsu
  go_enter Tryz.func97, Tryz.ntmps97
  go_wp2_with fail
  refine HS.out.mono ?_
  rintro e w1 ⟨v, rfl, hr, k1⟩
  obtain ⟨va, vc, rfl⟩ := owns_slice_n hr
  have HR := Lib.hid (owns_txt hr)
  have HK := Lib.hid k1
  clear hr k1 hb
  go_wp2_with fail
  go_loopw [8] (fun q wr => ∃ j : Nat, q = .int .i64 j ∧ j ≤ l.length ∧ inL (l.take j) u = false ∧ wr = w1) (fun q wr => l.length - (intOf q).toNat)
  case atStart => exact ⟨0, rfl, Nat.zero_le _, rfl, rfl⟩
  case round =>
   obtain ⟨j, rfl, hj, hno, rfl⟩ := hrel
   have HNO := Lib.hid hno
   clear hno
   by_cases hlt : j < l.length
   ·have hltI : (j : Int) < (l.length : Int) := by omega
    have hx : l[j]? = some l[j] := List.getElem?_eq_getElem hlt
    obtain ⟨ra, rc, e, r1, r2, hat⟩ := HR.out
    injection e with e1 e2 e3
    subst e1 e3
    obtain ⟨b, o, rfl, hcl⟩ := hat j _ hx
    generalize l[j] = x at hx hcl
    have c0 : wr.cell? ⟨b, o + j, none⟩ = some (.string x) := by simpa [TxtS] using hcl
    unfold maxLen at r2
    have HX := Lib.hid hx
    by_cases hn : x = u
    ·have HP := Lib.hid (show inL l u = true by unfold inL; rw [List.any_eq_true]; exact ⟨x, List.mem_of_getElem? HX.out, decide_eq_true hn⟩)
     have hb := beq_yes hn
     clear hx hcl hat e2
     go_wp2_with fail
     go_ret
     exact ⟨by rw [HP.out]; first | done | rfl, HK.out⟩
    ·have HM := Lib.hid (show inL (l.take (j + 1)) u = false by
      rw [List.take_add_one, HX.out]
      have := HNO.out
      unfold inL at this ⊢
      rw [List.any_append, this]
      simp [hn])
     have hb := beq_no hn
     clear hx hcl hat e2
     go_wp2_with fail
     go_roundw
     case rel => (first | exact ⟨j + 1, by go_num, by omega, HM.out, by first | trivial | rfl⟩ | ((repeat apply Exists.intro); exact ⟨⟨j + 1, by go_num, by omega, HM.out, by first | trivial | rfl⟩, rfl⟩))
     case measure => simp [intOf]; omega
   ·have hltI : ¬ (j : Int) < (l.length : Int) := by omega
    obtain rfl : j = l.length := by omega
    have HP := Lib.hid (show inL l u = false by have := HNO.out; rwa [List.take_length] at this)
    go_wp2_with fail
    go_ret
    exact ⟨by rw [HP.out]; first | done | rfl, HK.out⟩
set_option maxHeartbeats 4000000 in
theorem rgo7_c (t : List Tab.C) (a : Option Addr) (cp : Nat) (P : Nat → Nat → Bool) (v : Value) (s u : ByteArray) (w : World) (h : TabAt w (.slice a t.length cp) t) (hS : Small t) (hv : Tab.Valid t) (hm : MatV t.length P v w) :
  Calls Tryz.prog 99 #[v, .slice a t.length cp, .string s, .string u] w fun e w' => e = .returned (.bool (Tab.goG t P s u)) ∧ Kept w w' := by
 have HSB := Lib.hid (rsub7_c t a cp s u w h hS hv)
 have HF := Lib.hid (fun (x : ByteArray) (W : World) (k : Kept w W) => rfind_c t (.slice a t.length cp) x W (tab_kept h k))
 have HV := Lib.hid (show Tab.goG t P s u = (decide (s = ⟨#[63]⟩) || decide (u = ⟨#[63]⟩) || decide (u ∈ Tab.up t s) || (match Tab.ix Tab.C.name t s, Tab.ix Tab.C.name t u with
  | some i, some k => P i k
  | _, _ => false)) from rfl)
 have HIs := Lib.hid (fun i (e : Tab.ix Tab.C.name t s = some i) => (Tab.ix_lt e).1)
 have HIu := Lib.hid (fun i (e : Tab.ix Tab.C.name t u = some i) => (Tab.ix_lt e).1)
 have hlen := hS.len
 have HMK := Lib.hid (fun (W : World) (k : Kept w W) => hm.kept k)
 generalize Tab.goG t P s u = ans at HV ⊢
 generalize decide (u ∈ Tab.up t s) = ub at HV HSB
 obtain ⟨ma, mc, rfl, m1, m2, _⟩ := hm
 unfold maxLen at m2
 clear h hS hv
 by_cases hs : s = ⟨#[63]⟩
 ·have hq : (s.toList == ([63] : List UInt8)) = true := by have := beq_yes hs; rwa [show (⟨#[63]⟩ : ByteArray).toList = [63] by kernel_rfl] at this
  obtain rfl : ans = true := by rw [HV.out, decide_eq_true hs]; simp
  clear hs
  go_enter Tryz.func99, Tryz.ntmps99
  go_wp2_with fail
  go_ret
  exact ⟨rfl, Kept.refl _⟩
 ·have hq : (s.toList == ([63] : List UInt8)) = false := by have := beq_no hs; rwa [show (⟨#[63]⟩ : ByteArray).toList = [63] by kernel_rfl] at this
  by_cases hu : u = ⟨#[63]⟩
  ·have hq2 : (u.toList == ([63] : List UInt8)) = true := by have := beq_yes hu; rwa [show (⟨#[63]⟩ : ByteArray).toList = [63] by kernel_rfl] at this
   obtain rfl : ans = true := by rw [HV.out, decide_eq_true hu]; simp
   clear hs hu
   go_enter Tryz.func99, Tryz.ntmps99
   go_wp2_with fail
   go_ret
   exact ⟨rfl, Kept.refl _⟩
  ·have hq2 : (u.toList == ([63] : List UInt8)) = false := by have := beq_no hu; rwa [show (⟨#[63]⟩ : ByteArray).toList = [63] by kernel_rfl] at this
   cases ub with
   | true =>
    obtain rfl : ans = true := by rw [HV.out]; simp
    clear hs hu
    go_enter Tryz.func99, Tryz.ntmps99
    go_wp2_with fail
    refine HSB.out.mono ?_
    rintro e w1 ⟨rfl, k1⟩
    go_wp2_with fail
    go_ret
    exact ⟨rfl, k1⟩
   | false =>
    have HV2 := Lib.hid (show ans = (match Tab.ix Tab.C.name t s, Tab.ix Tab.C.name t u with
     | some i, some k => P i k
     | _, _ => false) by rw [HV.out, decide_eq_false hs, decide_eq_false hu]; rfl)
    clear hs hu HV
    cases hi : Tab.ix Tab.C.name t s with
    | none =>
     obtain rfl : ans = false := by rw [HV2.out, hi]
     have HFs := Lib.hid (fun (W : World) (k : Kept w W) => (show Calls _ _ _ W _ from by have := HF.out s W k; unfold FindPost at this; rw [hi] at this; simp only [Option.isSome_none] at this; exact this))
     have HFu := Lib.hid (fun (W : World) (k : Kept w W) => (show Calls _ _ _ W _ from by have := HF.out u W k; unfold FindPost at this; exact this))
     generalize Tab.num none = z1 at HFs
     generalize Tab.num (Tab.ix Tab.C.name t u) = z2 at HFu
     generalize (Tab.ix Tab.C.name t u).isSome = y2 at HFu
     clear hi
     go_enter Tryz.func99, Tryz.ntmps99
     go_wp2_with fail
     refine HSB.out.mono ?_
     rintro e w1 ⟨rfl, k1⟩
     have HK1 := Lib.hid k1
     clear k1
     go_wp2_with fail
     refine (HFs.out _ HK1.out).mono ?_
     rintro e w2 ⟨rfl, rfl⟩
     go_wp2_with fail
     refine (HFu.out _ HK1.out).mono ?_
     rintro e w3 ⟨rfl, rfl⟩
     go_wp2_with fail
     go_ret
     exact ⟨rfl, HK1.out⟩
    | some i =>
     have hil := HIs.out i hi
     have HFs := Lib.hid (fun (W : World) (k : Kept w W) => (show Calls _ _ _ W _ from by have := HF.out s W k; unfold FindPost at this; rw [hi] at this; simp only [Option.isSome_some, Tab.num] at this; exact this))
     cases hk : Tab.ix Tab.C.name t u with
     | none =>
      obtain rfl : ans = false := by rw [HV2.out, hi, hk]
      have HFu := Lib.hid (fun (W : World) (k : Kept w W) => (show Calls _ _ _ W _ from by have := HF.out u W k; unfold FindPost at this; rw [hk] at this; simp only [Option.isSome_none] at this; exact this))
      generalize Tab.num none = z2 at HFu
      clear hi hk
      go_enter Tryz.func99, Tryz.ntmps99
      go_wp2_with fail
      refine HSB.out.mono ?_
      rintro e w1 ⟨rfl, k1⟩
      have HK1 := Lib.hid k1
      clear k1
      go_wp2_with fail
      refine (HFs.out _ HK1.out).mono ?_
      rintro e w2 ⟨rfl, rfl⟩
      go_wp2_with fail
      refine (HFu.out _ HK1.out).mono ?_
      rintro e w3 ⟨rfl, rfl⟩
      go_wp2_with fail
      go_ret
      exact ⟨rfl, HK1.out⟩
     | some k =>
      have hkl := HIu.out k hk
      have HA := Lib.hid (show ans = P i k by rw [HV2.out, hi, hk])
      have HFu := Lib.hid (fun (W : World) (q : Kept w W) => (show Calls _ _ _ W _ from by have := HF.out u W q; unfold FindPost at this; rw [hk] at this; simp only [Option.isSome_some, Tab.num] at this; exact this))
      have hiI : (i : Int) < (t.length : Int) := by omega
      have hkI : (k : Int) < (t.length : Int) := by omega
      clear hi hk HV2 HIs HIu HF
      obtain ⟨n, hn⟩ : ∃ n, t.length = n := ⟨_, rfl⟩
      rw [hn] at hil hkl hiI hkI hlen m1 HSB HFs HFu HMK ⊢
      clear hn
      go_enter Tryz.func99, Tryz.ntmps99
      go_wp2_with fail
      refine HSB.out.mono ?_
      rintro e w1 ⟨rfl, k1⟩
      have HK1 := Lib.hid k1
      obtain ⟨_, _, e, _, _, hM⟩ := HMK.out w1 k1
      injection e with e1 e2 e3
      subst e1 e3
      obtain ⟨b, rb, rfl, c1, c2⟩ := hM i hil
      have c3 := c2 k hkl
      generalize P i k = pik at c3 HA
      clear k1 hM c2 e2
      go_wp2_with fail
      refine (HFs.out _ HK1.out).mono ?_
      rintro e w2 ⟨rfl, rfl⟩
      go_wp2_with fail
      refine (HFu.out _ HK1.out).mono ?_
      rintro e w3 ⟨rfl, rfl⟩
      go_wp2_with fail
      go_ret
      exact ⟨by rw [HA.out]; first | done | rfl, HK1.out⟩
end Go.Proofs.YthooiofaicdhgaaGreatDoor
namespace Go.Proofs.YthooiofaicdhgaaGreatDoor
open Go.ChangeShapes Go.WideShapes Go.ChangeAt Go.RowKit
theorem zip_at7 {A B : List Tab.V} {j : Nat} {x y : Tab.V} (hx : A[j]? = some x) (hy : B[j]? = some y) : (A.zip B)[j]? = some (x, y) := by
 rw [List.getElem?_zip_eq_some]; exact ⟨hx, hy⟩
set_option maxHeartbeats 16000000 in
theorem rhold7_c (t : List Tab.C) (a : Option Addr) (cp : Nat) (P : Nat → Nat → Bool) (v : Value) (s u : ByteArray) (w : World) (h : TabAt w (.slice a t.length cp) t) (hS : Small t) (hv : Tab.Valid t) (hs : Tab.isC t s = true) (hm : MatV t.length P v w) :
  Calls Tryz.prog 146 #[v, .slice a t.length cp, .string s, .string u] w fun e w' => e = .returned (.bool (Tab.hoR (Tab.goG t P) t s u)) ∧ Kept w w' := by
 have HH := Lib.hid (rhas7_c t a cp s u w h hS hv hs)
 have HG := Lib.hid (fun (x y : ByteArray) (W : World) (k : Kept w W) => rgo7_c t a cp P v x y W (tab_kept h k) hS hv (hm.kept k))
 have HFI := Lib.hid (fun (W : World) (k : Kept w W) => rfields_c t a cp u W (tab_kept h k) hS)
 have HFQ := Lib.hid (fun (nm : ByteArray) (W : World) (k : Kept w W) => rfieldq_c t a cp s nm W (tab_kept h k) hS)
 have HMS := Lib.hid (fun (W : World) (k : Kept w W) => rmethods_c t a cp u w W k h hS)
 have HMQ := Lib.hid (fun (nm : ByteArray) (W : World) (k : Kept w W) => rmeth_c t a cp s nm W (tab_kept h k) hS)
 have HFL := Lib.hid (fun (hb : Tab.hasB (Tab.mbs t s) (Tab.mbs t u) = true) (f : Tab.V) (hf : f ∈ Tab.fields t u) => Tab.has_fld hv hs hb hf)
 have HML := Lib.hid (fun (hb : Tab.hasB (Tab.mbs t s) (Tab.mbs t u) = true) (q : Tab.M) (hq : q ∈ Tab.methods t u) => Tab.has_mth hv hs hb hq)
 have HE := Lib.hid (show Tab.hoR (Tab.goG t P) t s u = (Tab.hasB (Tab.mbs t s) (Tab.mbs t u) && ((Tab.fields t u).all (Tab.gF (Tab.goG t P) t s) && (Tab.methods t u).all (Tab.gM (Tab.goG t P) t s))) from rfl)
 have HFN := Lib.hid (fields_le hS u)
 have HMN := Lib.hid (methods_le hS u)
 generalize Tab.hoR (Tab.goG t P) t s u = ans at HE ⊢
 obtain ⟨R, hR⟩ : ∃ R, Tab.goG t P = R := ⟨_, rfl⟩
 rw [hR] at HG HE
 have HGF := Lib.hid (fun (f : Tab.V) => (show Tab.gF R t s f = (R (Tab.fdD t s f.name) f.typ && R f.typ (Tab.fdD t s f.name)) from rfl))
 have HGM := Lib.hid (fun (m : Tab.M) => (show Tab.gM R t s m = (R (Tab.mtD t s m.name).res m.res && ((Tab.mtD t s m.name).params.zip m.params).all fun p => R p.2.typ p.1.typ) from rfl))
 generalize Tab.gF R t s = gf at HE HGF
 generalize Tab.gM R t s = gm at HE HGM
 generalize Tab.hasB (Tab.mbs t s) (Tab.mbs t u) = hb at HH HFL HML HE
 generalize Tab.fields t u = F at HFI HFL HE HFN
 generalize Tab.methods t u = M at HMS HML HE HMN
 generalize Tab.fdD t s = fd at HFL HGF
 generalize Tab.mtD t s = md at HML HGM
 obtain ⟨ma, mc, rfl, _⟩ := hm
 have hfn := HFN.out
 clear h hS hv hs hR
 go_enter Tryz.func146, Tryz.ntmps146
 go_wp2_with fail
 refine HH.out.mono ?_
 rintro e w1 ⟨rfl, k1⟩
 cases hb with
 | false =>
  obtain rfl : ans = false := by rw [HE.out]; rfl
  go_wp2_with fail
  go_ret
  exact ⟨rfl, k1⟩
 | true =>
  have HK1 := Lib.hid k1
  clear k1
  go_wp2_with fail
  refine (HFI.out _ HK1.out).mono ?_
  rintro e w2 ⟨fv, rfl, hr2, k2⟩
  obtain ⟨fa, fc, rfl⟩ := owns_slice_n hr2
  have HR2 := Lib.hid hr2
  have HK2 := Lib.hid (HK1.out.trans k2)
  clear hr2 k2
  go_wp2_with fail
  go_loopw [10] (fun q wr => ∃ j : Nat, q = .int .i64 j ∧ j ≤ F.length ∧ (F.take j).all gf = true ∧ Kept w2 wr) (fun q wr => F.length - (intOf q).toNat)
  case atStart => exact ⟨0, rfl, Nat.zero_le _, rfl, Kept.refl _⟩
  case round =>
   obtain ⟨j, rfl, hj, hal, hk⟩ := hrel
   obtain ⟨wo, rfl⟩ : ∃ wo, wo = wr := ⟨_, rfl⟩
   have HAL := Lib.hid hal
   have HKL := Lib.hid hk
   have HK := Lib.hid (HK2.out.trans hk)
   clear hal hk
   by_cases hlt : j < F.length
   ·have hltI : (j : Int) < (F.length : Int) := by omega
    have hx : F[j]? = some F[j] := List.getElem?_eq_getElem hlt
    generalize F[j] = f at hx
    obtain ⟨g, rfl, _⟩ := row_cells HR2.out (by omega)
    obtain ⟨d0, d1⟩ := var_cells HR2.out hx
    have c0 := HKL.out.cell d0
    have c1 := HKL.out.cell d1
    have HX := Lib.hid hx
    have HFF := Lib.hid (show Calls _ _ _ wo _ from by
     have := HFQ.out f.name wo HK.out
     rw [HFL.out (by trivial) f (List.mem_of_getElem? hx)] at this
     unfold FldPost at this
     simp only [Option.getD_some, Option.isSome_some] at this
     exact this)
    have HGG := Lib.hid (HGF.out f)
    generalize fd f.name = x at HFF HGG
    have HR1 := Lib.hid (fun (W : World) (k : Kept w W) => HG.out x f.typ W k)
    have HR2b := Lib.hid (fun (W : World) (k : Kept w W) => HG.out f.typ x W k)
    obtain ⟨r1, hr1⟩ : ∃ r, R x f.typ = r := ⟨_, rfl⟩
    obtain ⟨r2, hr2⟩ : ∃ r, R f.typ x = r := ⟨_, rfl⟩
    rw [hr1] at HR1 HGG
    rw [hr2] at HR2b HGG
    clear hx d0 d1 hr1 hr2
    go_wp2_with fail
    refine HFF.out.mono ?_
    rintro e w3 ⟨rfl, k3⟩
    have HK3 := Lib.hid (HK.out.trans k3)
    have HKL3 := Lib.hid (HKL.out.trans k3)
    have e1 := k3.cell c1
    clear k3 c0 c1
    go_wp2_with fail
    refine (HR1.out _ HK3.out).mono ?_
    rintro e w4 ⟨rfl, k4⟩
    have HK4 := Lib.hid (HK3.out.trans k4)
    have HKL4 := Lib.hid (HKL3.out.trans k4)
    have f1 := k4.cell e1
    clear k4 e1
    cases r1 with
    | false =>
     obtain rfl : ans = false := by rw [HE.out, all_take_no7 HX.out (by rw [HGG.out]; rfl)]; rfl
     go_wp2_with fail
     go_ret
     exact ⟨rfl, HK4.out⟩
    | true =>
     go_wp2_with fail
     refine (HR2b.out _ HK4.out).mono ?_
     rintro e w5 ⟨rfl, k5⟩
     have HK5 := Lib.hid (HK4.out.trans k5)
     have HKL5 := Lib.hid (HKL4.out.trans k5)
     clear k5 f1
     cases r2 with
     | false =>
      obtain rfl : ans = false := by rw [HE.out, all_take_no7 HX.out (by rw [HGG.out]; rfl)]; rfl
      go_wp2_with fail
      go_ret
      exact ⟨rfl, HK5.out⟩
     | true =>
      have HN := Lib.hid (all_take_more7 HAL.out HX.out (by rw [HGG.out]; rfl))
      go_wp2_with fail
      go_roundw
      case rel => (first | exact ⟨j + 1, by go_num, by omega, HN.out, HKL5.out⟩ | ((repeat apply Exists.intro); exact ⟨⟨j + 1, by go_num, by omega, HN.out, HKL5.out⟩, rfl⟩))
      case measure => simp [intOf]; omega
   ·have hltI : ¬ (j : Int) < (F.length : Int) := by omega
    have HFA := Lib.hid (show F.all gf = true by have := HAL.out; rwa [List.take_of_length_le (by omega)] at this)
    go_wp2_with fail
    refine (HMS.out _ HK.out).mono ?_
    rintro e w4 ⟨mv, qs, rfl, hmr⟩
    obtain ⟨va, vc, rfl⟩ := owns_slice_n hmr.1
    have HMR := Lib.hid hmr
    have HKM := Lib.hid (HK.out.trans hmr.2.2.2)
    have hql : qs.length ≤ 1000 * 1000 := by have := hmr.2.1; have := HMN.out; rw [← hmr.2.1] at this; simpa using this
    clear hmr
    go_wp2_with fail
    go_loopw [14] (fun q wr => ∃ j : Nat, q = .int .i64 j ∧ j ≤ qs.length ∧ (M.take j).all gm = true ∧ Kept w4 wr) (fun q wr => qs.length - (intOf q).toNat)
    case atStart => exact ⟨0, rfl, Nat.zero_le _, rfl, Kept.refl _⟩
    case round =>
     obtain ⟨jm, rfl, hjm, hal, hk⟩ := hrel
     obtain ⟨wm, rfl⟩ : ∃ wm, wm = wr := ⟨_, rfl⟩
     have HALm := Lib.hid hal
     have HKLm := Lib.hid hk
     have HKm := Lib.hid (HKM.out.trans hk)
     clear hal hk
     by_cases hlt2 : jm < qs.length
     ·have hltI2 : (jm : Int) < (qs.length : Int) := by omega
      have hx : qs[jm]? = some qs[jm] := List.getElem?_eq_getElem hlt2
      generalize qs[jm] = x at hx
      obtain ⟨g, rfl, _⟩ := row_cells HMR.out.1 (by omega)
      obtain ⟨d0, d1, d2⟩ := sig_cells HMR.out.1 hx
      have hxM : M[jm]? = some x.1 := by rw [← HMR.out.2.1, List.getElem?_map, hx]; rfl
      have HXM := Lib.hid hxM
      obtain ⟨ov, hmth, hlen⟩ := HML.out (by trivial) x.1 (List.mem_of_getElem? hxM)
      have hrq := HMR.out.2.2.1 x (List.mem_of_getElem? hx)
      have HRQ := Lib.hid hrq
      obtain ⟨qa, qc, hqe, q1, q2, _⟩ := hrq
      rw [hqe] at d1 HRQ
      obtain ⟨n, hn⟩ : ∃ n, x.1.params.length = n := ⟨_, rfl⟩
      rw [hn] at hlen d1 HRQ q1
      have HQN := Lib.hid hn
      unfold maxLen at q2
      have HGG := Lib.hid (HGM.out x.1)
      have HMM := Lib.hid (show Calls Tryz.prog 183 #[.slice a t.length cp, .string s, .string x.1.name] wm (fun e w' => (∃ pv, e = .returned (.tuple #[.agg #[.string (md x.1.name).name, pv, .string (md x.1.name).res], .string ov, .bool true]) ∧ Row 2 VarAt wm pv (md x.1.name).params) ∧ Kept wm w') from by
       have := HMQ.out x.1.name wm HKm.out
       unfold MthR at this
       rw [hmth] at this
       exact this)
      generalize x.1.name = xn at d0 HMM HGG hlen
      generalize md xn = p at HMM HGG hlen
      have HPN := Lib.hid hlen
      have c0 := HKLm.out.cell d0
      have HD1 := Lib.hid d1
      have HD2 := Lib.hid d2
      have HRR := Lib.hid (fun (W : World) (k : Kept w W) => HG.out p.res x.1.res W k)
      obtain ⟨r, hr⟩ : ∃ r, R p.res x.1.res = r := ⟨_, rfl⟩
      rw [hr] at HRR HGG
      obtain ⟨xr, hxr⟩ : ∃ r, x.1.res = r := ⟨_, rfl⟩
      rw [hxr] at HD2 HRR
      clear hx hxM hmth hlen hqe hn d0 d1 d2 hr hxr
      go_wp2_with fail
      refine HMM.out.mono ?_
      rintro e w5 ⟨⟨pv, rfl, hrow⟩, k5⟩
      have HRP := Lib.hid hrow
      obtain ⟨pa, pc, rfl, p1, p2, _⟩ := hrow
      rw [HPN.out] at p1 HRP ⊢
      unfold maxLen at p2
      obtain ⟨w6, hw6⟩ : ∃ w6, w5.alloc (.cells #[.string p.name, .slice pa n pc, .string p.res] 53) = w6 := ⟨_, rfl⟩
      have k56 : Kept w5 w6 := by rw [← hw6]; exact (Kept.refl w5).alloc _
      have HK6 := Lib.hid ((HKm.out.trans k5).trans k56)
      have HKL6 := Lib.hid ((HKLm.out.trans k5).trans k56)
      have HBL := Lib.hid (show Blk w6 w5.heap.size 53 #[.string p.name, .slice pa n pc, .string p.res] by rw [← hw6]; exact Blk.new w5 _ _)
      have HRPk := Lib.hid (vars_kept HRP.out (k5.trans k56))
      have HW6 := Lib.hid hw6
      clear k5 k56 c0 hw6
      go_wp2_with fail
      rw [HW6.out]
      have s2 := HBL.out.cell 2
      have u2 := HKL6.out.cell HD2.out
      simp only [List.getElem?_toArray, List.getElem?_cons_zero, List.getElem?_cons_succ] at s2
      have HHR := Lib.hid (HRR.out w6.drew HK6.out.drew)
      go_wp2_with fail
      go_still_tail 9, (by kernel_rfl)
      change wpList _ _ _ _ _ w6.drew
      clear s2 u2
      go_wp2_with fail
      refine HHR.out.mono ?_
      rintro e w7 ⟨rfl, k7⟩
      have HK7 := Lib.hid ((HK6.out.drew).trans k7)
      have HKL7 := Lib.hid ((HKL6.out.drew).trans k7)
      have k67 : Kept w6 w7 := ((Kept.refl w6).drew).trans k7
      have HB7 := Lib.hid (HBL.out.kept k67)
      have HRP7 := Lib.hid (vars_kept HRPk.out k67)
      clear k7 k67
      cases r with
      | false =>
       obtain rfl : ans = false := by rw [HE.out, HFA.out, all_take_no7 HXM.out (by rw [HGG.out]; rfl)]; rfl
       go_wp2_with fail
       go_ret
       exact ⟨rfl, HK7.out⟩
      | true =>
       go_wp2_with fail
       go_loopw [18] (fun z wr => ∃ i : Nat, z = .int .i64 i ∧ i ≤ n ∧ ((p.params.zip x.1.params).take i).all (fun q => R q.2.typ q.1.typ) = true ∧ Kept w7 wr) (fun z wr => n - (intOf z).toNat)
       case atStart => exact ⟨0, rfl, Nat.zero_le _, rfl, Kept.refl _⟩
       case round =>
        obtain ⟨i, rfl, hi, hal2, hk7⟩ := hrel
        obtain ⟨wk, rfl⟩ : ∃ wk, wk = wr := ⟨_, rfl⟩
        have HAL2 := Lib.hid hal2
        have HK8 := Lib.hid (HK7.out.trans hk7)
        have HKL8 := Lib.hid (HKL7.out.trans hk7)
        have HK78 := Lib.hid hk7
        have s1 := (HB7.out.kept hk7).cell 1
        simp only [List.getElem?_toArray, List.getElem?_cons_zero, List.getElem?_cons_succ] at s1
        have u1 := HKL8.out.cell HD1.out
        have hpr := vars_kept HRP7.out hk7
        have hqr := vars_kept HRQ.out HK8.out
        clear hal2 hk7
        by_cases hil : i < n
        ·have hilI : (i : Int) < (n : Int) := by omega
         have hip : i < p.params.length := by rw [HPN.out]; exact hil
         have hiq : i < x.1.params.length := by rw [HQN.out]; exact hil
         have hpx : p.params[i]? = some p.params[i] := List.getElem?_eq_getElem hip
         have hqx : x.1.params[i]? = some x.1.params[i] := List.getElem?_eq_getElem hiq
         obtain ⟨_, _, ep, _, _, gp⟩ := hpr
         injection ep with ep1 ep2 ep3
         subst ep1 ep3
         obtain ⟨_, _, eq, _, _, gq⟩ := hqr
         injection eq with eq1 eq2 eq3
         subst eq1 eq3
         obtain ⟨pb, po, rfl, _, x1, _⟩ := gp _ _ hpx
         obtain ⟨qb, qo, rfl, _, y1, _⟩ := gq _ _ hqx
         have HZ := Lib.hid (zip_at7 hpx hqx)
         generalize p.params[i] = xp at hpx x1 HZ
         generalize x.1.params[i] = xq at hqx y1 HZ
         have HHR2 := Lib.hid (HG.out xq.typ xp.typ wk.drew HK8.out.drew)
         obtain ⟨r2, hr2⟩ : ∃ r, R xq.typ xp.typ = r := ⟨_, rfl⟩
         rw [hr2] at HHR2
         have HRR2 := Lib.hid hr2
         clear gp gq hpx hqx hr2 ep2 eq2
         go_wp2_with fail
         go_still_tail 17, (by kernel_rfl)
         change wpList _ _ _ _ _ wk.drew
         clear s1 u1 x1 y1
         go_wp2_with fail
         refine HHR2.out.mono ?_
         rintro e w9 ⟨rfl, k9⟩
         have HK9 := Lib.hid (HK8.out.drew.trans k9)
         have HK79 := Lib.hid (HK78.out.drew.trans k9)
         clear k9
         cases r2 with
         | false =>
          obtain rfl : ans = false := by
           rw [HE.out, HFA.out, all_take_no7 HXM.out (by rw [HGG.out, all_take_no7 HZ.out HRR2.out]; rfl)]
           rfl
          go_wp2_with fail
          go_ret
          exact ⟨rfl, HK9.out⟩
         | true =>
          have HN := Lib.hid (all_take_more7 HAL2.out HZ.out HRR2.out)
          go_wp2_with fail
          go_roundw
          case rel => (first | exact ⟨i + 1, by go_num, by omega, HN.out, HK79.out⟩ | ((repeat apply Exists.intro); exact ⟨⟨i + 1, by go_num, by omega, HN.out, HK79.out⟩, rfl⟩))
          case measure => simp [intOf]; omega
        ·have hilI : ¬ (i : Int) < (n : Int) := by omega
         have HZA := Lib.hid (show ((p.params.zip x.1.params).all fun q => R q.2.typ q.1.typ) = true by
          have := HAL2.out
          rwa [List.take_of_length_le (by rw [List.length_zip, HPN.out, HQN.out]; omega)] at this)
         have HN := Lib.hid (all_take_more7 HALm.out HXM.out (by rw [HGG.out, HZA.out]; rfl))
         clear hpr hqr u1
         go_wp2_with fail
         go_roundw
         case rel => (first | exact ⟨jm + 1, by go_num, by omega, HN.out, HKL8.out⟩ | ((repeat apply Exists.intro); exact ⟨⟨jm + 1, by go_num, by omega, HN.out, HKL8.out⟩, rfl⟩))
         case measure => simp [intOf]; omega
     ·have hltI2 : ¬ (jm : Int) < (qs.length : Int) := by omega
      obtain rfl : ans = true := by
       have h1 := HALm.out
       rw [List.take_of_length_le (by rw [← HMR.out.2.1, List.length_map]; omega)] at h1
       rw [HE.out, HFA.out, h1]
       rfl
      go_wp2_with fail
      go_ret
      exact ⟨rfl, HKm.out⟩
end Go.Proofs.YthooiofaicdhgaaGreatDoor
namespace Go.Proofs.YthooiofaicdhgaaGreatDoor
open Go.ChangeShapes Go.WideShapes Go.ChangeAt Go.RowKit
namespace Tab
def Q7 (t : List C) (P : Nat → Nat → Bool) (i k : Nat) : Prop := (nth t k).name ∈ up t (nth t i).name ∨ hoR (goG t P) t (nth t i).name (nth t k).name = true
def K7 (t : List C) (i k : Nat) : Prop := inL (gfp (shps t)) i k = true
end Tab
set_option maxHeartbeats 16000000 in
theorem rgr7_c (t : List Tab.C) (a : Option Addr) (cp : Nat) (w : World) (h : TabAt w (.slice a t.length cp) t) (hS : Small t) (hv : Tab.Valid t) :
  Calls Tryz.prog 98 #[.slice a t.length cp] w fun e w' => ∃ v P, e = .returned v ∧ MatV t.length P v w' ∧ (∀ i k, i < t.length → k < t.length → (P i k = true ↔ Tab.K7 t i k)) ∧ Kept w w' := by
 obtain ⟨ir, hir, hrz, hrs, hrb⟩ := info_parts info_br8
 obtain ⟨ib, hib, hbz, hbs, hbb⟩ := info_parts info_bo8
 have hlen := hS.len
 have HT := Lib.hid h
 have HM := Lib.hid (fun (P : Nat → Nat → Bool) (v : Value) (i k : Nat) (hi : i < t.length) (hk : k < t.length) (W : World) (kk : Kept w W) (hm : MatV t.length P v W) => rhold7_c t a cp P v (Tab.nth t i).name (Tab.nth t k).name W (tab_kept h kk) hS hv (hv.isC hi) hm)
 have HSUB := Lib.hid (fun (i k : Nat) (W : World) (kk : Kept w W) => rsub7_c t a cp (Tab.nth t i).name (Tab.nth t k).name W (tab_kept h kk) hS hv)
 have HKEEP := Lib.hid (fun (P : Nat → Nat → Bool) (hP : ∀ a b, a < t.length → b < t.length → Tab.K7 t a b → P a b = true) (i k : Nat) (hi : i < t.length) (hk : k < t.length) (hK : Tab.K7 t i k) => (show Tab.hoR (Tab.goG t P) t (Tab.nth t i).name (Tab.nth t k).name = true from Tab.goG_keep hv hP hi hk hK))
 have HEND := Lib.hid (fun (P : Nat → Nat → Bool) (hE : ∀ i k, i < t.length → k < t.length → P i k = true → Tab.Q7 t P i k) (i k : Nat) (hi : i < t.length) (hk : k < t.length) (hp : P i k = true) => (show Tab.K7 t i k from Tab.goG_end hv hE hi hk hp))
 have HQ := Lib.hid (fun (P : Nat → Nat → Bool) (i k : Nat) => (show Tab.Q7 t P i k ↔ (Tab.nth t k).name ∈ Tab.up t (Tab.nth t i).name ∨ Tab.hoR (Tab.goG t P) t (Tab.nth t i).name (Tab.nth t k).name = true from Iff.rfl))
 have HNM := Lib.hid (fun (i : Nat) (hi : i < t.length) => (show t[i]? = some (Tab.nth t i) from Tab.of_nth hi))
 generalize Tab.K7 t = K at HKEEP HEND ⊢
 generalize Tab.Q7 t = Q at HEND HQ
 obtain ⟨n, hn⟩ : ∃ n, t.length = n := ⟨_, rfl⟩
 rw [hn] at hlen HT HM HSUB HKEEP HEND HNM ⊢
 obtain ⟨base, hbase⟩ : ∃ b, w.heap.size = b := ⟨_, rfl⟩
 have HBASE := Lib.hid hbase
 clear h hS hv hn hbase
 go_enter Tryz.func98, Tryz.ntmps98
 go_wp2_with fail
 go_loopw [3, 4] (fun p q wr => ∃ (i : Nat) (bs : List Nat), q = .int .i64 i ∧ i ≤ n ∧ bs.length = i ∧ MatB base n bs (fun _ _ => true) p wr ∧ Kept w wr) (fun p q wr => n - (intOf q).toNat)
 case atStart => exact ⟨0, [], rfl, Nat.zero_le _, rfl, MatB.nil _ _ _ _, Kept.refl _⟩
 case round =>
  obtain ⟨i, bs, rfl, hi, hbl, hmb, hk⟩ := hrel
  obtain ⟨wo, rfl⟩ : ∃ wo, wo = wr := ⟨_, rfl⟩
  obtain ⟨pa, pn, pc, rfl⟩ := owns_slice hmb.1
  have HMB := Lib.hid hmb
  have HK := Lib.hid hk
  have HBL := Lib.hid hbl
  clear hmb hk hbl
  by_cases hlt : i < n
  ·have hltI : (i : Int) < (n : Int) := by omega
   have HSZ := Lib.hid (show base ≤ wo.heap.size from HBASE.out ▸ HK.out.size)
   go_wp2_with (at_make; refine wpList_make_full _ rfl (.tmp 17) (.tmp 17) 175 rfl base 4 ib _ 1 Tryz.underlying175 hib hbz hbs .i64 .i64 _ _ n rfl rfl rfl rfl (by rw [hbb]; omega) (by unfold maxLen; omega) HSZ.out ?_)
   intro w1 hown hgrow
   obtain ⟨b, hb⟩ : ∃ b, wo.heap.size = b := ⟨_, rfl⟩
   rw [hb] at hown ⊢
   have HRW := Lib.hid (RowB.made (b := b) (by rw [Nat.mul_one]; exact hown))
   have HK1 := Lib.hid ((Kept.refl wo).grown hgrow fun k e => by cases e)
   have HMB1 := Lib.hid (HMB.out.keep HK1.out)
   have HNE1 := Lib.hid (fun g (e : (Value.slice pa pn pc).ownBlock = some g) => show ¬ g = b by have := (own_geC HMB.out.1 e).2; omega)
   have HNE2 := Lib.hid (fun c (e : c ∈ bs) => show ¬ c = b by have := HMB.out.lt c e; omega)
   have HBB := Lib.hid hb
   clear hown hgrow hb
   go_wp2_with fail
   go_loopw [6] (fun q wr => ∃ j : Nat, q = .int .i64 j ∧ j ≤ n ∧ RowB base n (fun k => decide (k < j)) b wr ∧ Only (· = b) w1 wr) (fun q wr => n - (intOf q).toNat)
   case atStart => exact ⟨0, rfl, Nat.zero_le _, HRW.out, Only.refl _ _⟩
   case round =>
    obtain ⟨j, rfl, hj, hr, ho⟩ := hrel
    obtain ⟨wj, rfl⟩ : ∃ wj, wj = wr := ⟨_, rfl⟩
    have HR := Lib.hid hr
    have HO := Lib.hid ho
    clear hr ho
    by_cases hjt : j < n
    ·have hjI : (j : Int) < (n : Int) := by omega
     have c0 := HR.out.cell hjt
     have f0 := HR.out.frz j
     have HRN := Lib.hid (HR.out.set (g := fun k => decide (k < j + 1)) hjt true fun q hq => by
      by_cases e : q = j
      ·subst e; simp
      ·rw [if_neg e]; simp; omega)
     have HON := Lib.hid (HO.out.put j (.bool true))
     go_wp2_with fail
     go_roundw
     case rel => (first | exact ⟨j + 1, by go_num, by omega, HRN.out, HON.out⟩ | ((repeat apply Exists.intro); exact ⟨⟨j + 1, by go_num, by omega, HRN.out, HON.out⟩, rfl⟩))
     case measure => simp [intOf]; omega
    ·have hjI : ¬ (j : Int) < (n : Int) := by omega
     obtain rfl : j = n := by omega
     have HRT := Lib.hid (HR.out.congr (g := fun _ => true) fun k hk => by simp [hk])
     have HMB2 := Lib.hid (HMB1.out.only HO.out HNE1.out HNE2.out)
     have HK2 := Lib.hid ((HK.out.trans HK1.out).only HO.out HBASE.out.symm fun k e => by rw [e]; exact HBB.out ▸ HSZ.out)
     obtain ⟨w2, hw2⟩ : ∃ w2, w2 = wj.alloc (.cells #[.slice (some ⟨b, 0, none⟩) j j] 175) := ⟨_, rfl⟩
     have HRX := Lib.hid (own_only (S := fun _ => False) HMB2.out.1 ((Only.refl _ wj).alloc (.cells #[.slice (some ⟨b, 0, none⟩) j j] 175)) (fun _ _ h => h))
     have HSX := Lib.hid (src_rw7 wj j b)
     have HSZ2 := Lib.hid (show base ≤ wj.heap.size from HBASE.out ▸ HK2.out.size)
     have HGE := Lib.hid (fun g (e : (Value.slice pa pn pc).ownBlock = some g) => (own_geC HMB2.out.1 e).1)
     clear hw2
     go_wp2_with (at_builtin; refine wpList_apk rfl (.tmp 28) (.tmp 30) 105 105 rfl base 1 175 ir _ 24 Tryz.underlying105 hir hrz hrs hrb rfl rfl HRX.out rfl HSX.out (by rw [HBL.out]; unfold maxLen; omega) (by rw [HBL.out]; omega) (by have := HSZ2.out; simp; omega) ?_; intro v' w3 hown' hgrow hlies; have HN := Lib.hid (HMB2.out.push HRT.out (fun e => HNE2.out b e rfl) ((Kept.refl wj).alloc (.cells #[.slice (some ⟨b, 0, none⟩) j j] 175)) hgrow hown'); have HK3 := Lib.hid ((HK2.out.alloc (.cells #[.slice (some ⟨b, 0, none⟩) j j] 175)).grown hgrow fun k e => HBASE.out ▸ HGE.out k e); obtain ⟨va', vn', vc', rfl⟩ := owns_slice hown'; clear hown' hgrow hlies)
     go_roundw
     case rel => (first | exact ⟨i + 1, bs ++ [b], by go_num, by omega, by rw [List.length_append, HBL.out]; rfl, HN.out, HK3.out⟩ | ((repeat apply Exists.intro); exact ⟨⟨i + 1, bs ++ [b], by go_num, by omega, by rw [List.length_append, HBL.out]; rfl, HN.out, HK3.out⟩, rfl⟩))
     case measure => simp [intOf]; omega
  ·have hltI : ¬ (i : Int) < (n : Int) := by omega
   obtain rfl : i = n := by omega
   obtain ⟨_, _, epn⟩ := owns_slice_n HMB.out.1
   injection epn with epa epn epc
   obtain rfl : i = pn := by rw [epn, HBL.out]
   clear epn epa epc
   have HG0 := Lib.hid (show GrS K i base w bs (.slice pa i pc) (fun _ _ => true) wo from ⟨HMB.out, HK.out, Lib.hid fun _ _ _ _ _ => rfl⟩)
   clear hltI
   go_wp2_with fail
   go_loopg [7] (2 * (i * i) + 2) (fun G q wr => ∃ (ag : Bool) (P : Nat → Nat → Bool), q = .bool ag ∧ GrS K i base w bs (.slice pa i pc) P wr ∧ Hid (2 * Tab.cntM i P + (if ag = true then 1 else 0) < G) ∧ Hid (ag = false → ∀ x k, x < i → k < i → P x k = true → Q P x k))
   case atStart => exact ⟨true, _, rfl, HG0.out, Lib.hid (by have := Tab.cnt_le i (fun _ _ => true); simp; omega), Lib.hid (fun e => by cases e)⟩
   case round =>
    obtain ⟨ag, P, rfl, hG, hm, hE⟩ := hrel
    obtain ⟨wa, rfl⟩ : ∃ wa, wa = wr := ⟨_, rfl⟩
    have HG := Lib.hid hG
    clear hG
    cases ag with
    | false =>
     have HIFF := Lib.hid (show ∀ x k, x < i → k < i → (P x k = true ↔ K x k) from fun x k hx hk => ⟨HEND.out P (fun x k hx hk hp => hE.out rfl x k hx hk hp) x k hx hk, HG.out.2.2.out x k hx hk⟩)
     have HV := Lib.hid (HG.out.1.view HBL.out)
     clear hm hE
     go_wp2_with fail
     go_ret
     exact ⟨_, P, rfl, HV.out, HIFF.out, HG.out.2.1⟩
    | true =>
     have HMS := hm
     clear hm hE
     go_wp2_with fail
     go_loopw [7, 8] (fun q7 q8 wr => ∃ (ag : Bool) (x : Nat) (P' : Nat → Nat → Bool), q7 = .bool ag ∧ q8 = .int .i64 x ∧ x ≤ i ∧ GrS K i base w bs (.slice pa i pc) P' wr ∧ Hid (Tab.MdG Q i P P' ag (fun c d => c < x ∧ d < i))) (fun q7 q8 wr => i - (intOf q8).toNat)
     case atStart => exact ⟨false, 0, P, rfl, rfl, Nat.zero_le _, HG.out, Lib.hid (Tab.MdG.start fun c d e => absurd e.1 (Nat.not_lt_zero _))⟩
     case round =>
      obtain ⟨ag, x, P1, rfl, rfl, hx, hG, hMD⟩ := hrel
      obtain ⟨wb, rfl⟩ : ∃ wb, wb = wr := ⟨_, rfl⟩
      have HG1 := Lib.hid hG
      clear hG
      by_cases hxl : x < i
      ·have hxI : (x : Int) < (i : Int) := by omega
       go_wp2_with fail
       go_loopw [7, 9] (fun q7 q9 wr => ∃ (ag : Bool) (y : Nat) (P' : Nat → Nat → Bool), q7 = .bool ag ∧ q9 = .int .i64 y ∧ y ≤ i ∧ GrS K i base w bs (.slice pa i pc) P' wr ∧ Hid (Tab.MdG Q i P P' ag (fun c d => (c < x ∧ d < i) ∨ (c = x ∧ d < y)))) (fun q7 q9 wr => i - (intOf q9).toNat)
       case atStart => exact ⟨ag, 0, P1, rfl, rfl, Nat.zero_le _, HG1.out, Lib.hid (hMD.out.keep fun c d e => .inl (by omega))⟩
       case round =>
        obtain ⟨ag, y, P2, rfl, rfl, hy, hG, hMD2⟩ := hrel
        obtain ⟨wc, rfl⟩ : ∃ wc, wc = wr := ⟨_, rfl⟩
        have HG2 := Lib.hid hG
        clear hG
        by_cases hyl : y < i
        ·have hyI : (y : Int) < (i : Int) := by omega
         obtain ⟨g, c, b, hv1, hc1, hc2, hbx, hcell, hrow⟩ := HG2.out.1.at HBL.out hxl
         injection hv1 with hv1 hv2 hv3
         subst hv1
         obtain rfl := hv3.symm
         clear hv2
         have c1 := hrow.cell hyl
         obtain ⟨_, _, et, _, _, hat⟩ := tab_kept HT.out HG2.out.2.1
         obtain ⟨tb, to, e1, cx, _⟩ := hat x _ (HNM.out x hxl)
         obtain ⟨tb', to', e2, cy, _⟩ := hat y _ (HNM.out y hyl)
         injection et with et1 et2 et3
         subst et1
         rw [e1] at e2
         injection e2 with e2
         injection e2 with e2 e3
         subst e2 e3 e1
         unfold maxLen at hc2
         have HBX := Lib.hid hbx
         obtain ⟨pxy, hpxy⟩ : ∃ z, P2 x y = z := ⟨_, rfl⟩
         rw [hpxy] at c1
         have HPXY := Lib.hid hpxy
         have HMM := Lib.hid (fun (W : World) (k : Kept wc W) => HM.out P2 (.slice (some ⟨g, 0, none⟩) i c) x y hxl hyl W (HG2.out.2.1.trans k) ((HG2.out.1.view HBL.out).kept k))
         have HSB := Lib.hid (HSUB.out x y wc.drew HG2.out.2.1.drew)
         have HKE := Lib.hid (fun (e : K x y) => HKEEP.out P2 HG2.out.2.2.out x y hxl hyl e)
         have HQQ := Lib.hid (HQ.out P2 x y)
         generalize (Tab.nth t x).name = sx at cx HMM HKE HQQ HSB
         generalize (Tab.nth t y).name = sy at cy HMM HKE HQQ HSB
         obtain ⟨r, hr⟩ : ∃ r, Tab.hoR (Tab.goG t P2) t sx sy = r := ⟨_, rfl⟩
         obtain ⟨ub, hub⟩ : ∃ r, decide (sy ∈ Tab.up t sx) = r := ⟨_, rfl⟩
         rw [hr] at HMM HKE HQQ
         rw [hub] at HSB
         have HUB := Lib.hid hub
         clear et2 et3 hat hbx hpxy hr hrow hub
         have s0 := ((Kept.refl wc).drew).cell hcell
         have s1 := ((Kept.refl wc).drew).cell c1
         have s2 := ((Kept.refl wc).drew).cell cx
         have s3 := ((Kept.refl wc).drew).cell cy
         cases pxy with
         | false =>
          have HN := Lib.hid (hMD2.out.keep (done' := fun c d => (c < x ∧ d < i) ∨ (c = x ∧ d < y + 1)) fun c d e => by
           by_cases e2 : d = y ∧ c = x
           ·obtain ⟨rfl, rfl⟩ := e2
            exact .inr fun e => by rw [HPXY.out] at e; cases e
           ·exact .inl (by omega))
          have HG3 := Lib.hid (HG2.out.keep ((Kept.refl wc).drew))
          go_wp2_with fail
          refine wp_region_held_drew (S := (fun W => W.cell? ⟨g, x, none⟩ = some (.slice (some ⟨b, 0, none⟩) i i) ∧ W.cell? ⟨b, y, none⟩ = some (.bool false) ∧ W.cell? ⟨tb, to + x * 4, none⟩ = some (.string sx) ∧ W.cell? ⟨tb, to + y * 4, none⟩ = some (.string sy) ∧ Kept wc W)) (by kernel_rfl) ⟨s0, s1, s2, s3, (Kept.refl wc).drew⟩ (fun hHeld0 => ?_)
          clear s0 s1 s2 s3 hcell c1 cx cy
          refine wpAnyH_take (i := 0) (v := ?_) rfl (by kernel_rfl) (by kernel_rfl) (by kernel_rfl) (fun _ _ _ h => h) (Or.inl ⟨by kernel_rfl, ?_⟩) (by assumption) ?_
          rotate_left
          ·intro w hSw; (try dsimp only at hSw); go_simp; (try with_reducible rfl)
          (try simp only [Act.put, List.getElem_toArray, List.getElem_cons_zero, List.getElem_cons_succ, List.setIfInBounds_toArray, List.set_cons_zero, List.set_cons_succ])
          refine wpAnyH_take (i := 1) (v := ?_) rfl (by kernel_rfl) (by kernel_rfl) (by kernel_rfl) (fun _ _ _ h => h) (Or.inl ⟨by kernel_rfl, ?_⟩) (by assumption) ?_
          rotate_left
          ·intro w hSw; (try dsimp only at hSw); go_simp; (try with_reducible rfl)
          (try simp only [Act.put, List.getElem_toArray, List.getElem_cons_zero, List.getElem_cons_succ, List.setIfInBounds_toArray, List.set_cons_zero, List.set_cons_succ])
          refine wpAnyH_take (i := 2) (v := ?_) rfl (by kernel_rfl) (by kernel_rfl) (by kernel_rfl) (fun _ _ _ h => h) (Or.inl ⟨by kernel_rfl, ?_⟩) (by assumption) ?_
          rotate_left
          ·intro w hSw; (try dsimp only at hSw); go_simp; (try with_reducible rfl)
          (try simp only [Act.put, List.getElem_toArray, List.getElem_cons_zero, List.getElem_cons_succ, List.setIfInBounds_toArray, List.set_cons_zero, List.set_cons_succ])
          refine wpAnyH_take (i := 3) (v := ?_) rfl (by kernel_rfl) (by kernel_rfl) (by kernel_rfl) (fun _ _ _ h => h) (Or.inl ⟨by kernel_rfl, ?_⟩) (by assumption) ?_
          rotate_left
          ·intro w hSw; (try dsimp only at hSw); go_simp; (try with_reducible rfl)
          (try simp only [Act.put, List.getElem_toArray, List.getElem_cons_zero, List.getElem_cons_succ, List.setIfInBounds_toArray, List.set_cons_zero, List.set_cons_succ])
          refine wpAnyH_take (i := 4) (v := ?_) rfl (by kernel_rfl) (by kernel_rfl) (by kernel_rfl) (fun _ _ _ h => h) (Or.inl ⟨by kernel_rfl, ?_⟩) (by assumption) ?_
          rotate_left
          ·intro w hSw; (try dsimp only at hSw); go_simp; (try with_reducible rfl)
          (try simp only [Act.put, List.getElem_toArray, List.getElem_cons_zero, List.getElem_cons_succ, List.setIfInBounds_toArray, List.set_cons_zero, List.set_cons_succ])
          refine wpAnyH_take (i := 5) (v := ?_) rfl (by kernel_rfl) (by kernel_rfl) (by kernel_rfl) (fun _ _ _ h => h) (Or.inl ⟨by kernel_rfl, ?_⟩) (by assumption) ?_
          rotate_left
          ·intro w hSw; (try dsimp only at hSw); go_simp; (try with_reducible rfl)
          (try simp only [Act.put, List.getElem_toArray, List.getElem_cons_zero, List.getElem_cons_succ, List.setIfInBounds_toArray, List.set_cons_zero, List.set_cons_succ])
          refine wpAnyH_take (i := 6) (v := ?_) rfl (by kernel_rfl) (by kernel_rfl) (by kernel_rfl) (fun _ _ _ h => h) (Or.inl ⟨by kernel_rfl, ?_⟩) (by assumption) ?_
          rotate_left
          ·intro w hSw; (try dsimp only at hSw); go_simp; (try with_reducible rfl)
          (try simp only [Act.put, List.getElem_toArray, List.getElem_cons_zero, List.getElem_cons_succ, List.setIfInBounds_toArray, List.set_cons_zero, List.set_cons_succ])
          refine wpAnyH_take (i := 7) (v := ?_) rfl (by kernel_rfl) (by kernel_rfl) (by kernel_rfl) (fun _ _ _ h => h) (Or.inl ⟨by kernel_rfl, ?_⟩) (by assumption) ?_
          rotate_left
          ·intro w hSw; (try dsimp only at hSw); go_simp; (try with_reducible rfl)
          (try simp only [Act.put, List.getElem_toArray, List.getElem_cons_zero, List.getElem_cons_succ, List.setIfInBounds_toArray, List.set_cons_zero, List.set_cons_succ])
          refine wpAnyH_take (i := 8) (v := undef) rfl (by kernel_rfl) (by kernel_rfl) (by kernel_rfl) (fun _ _ _ h => h) (Or.inr ⟨by kernel_rfl, rfl⟩) (by assumption) ?_
          (try simp only [Act.put, List.getElem_toArray, List.getElem_cons_zero, List.getElem_cons_succ, List.setIfInBounds_toArray, List.set_cons_zero, List.set_cons_succ])
          refine wpAnyH_take (i := 9) (v := undef) rfl (by kernel_rfl) (by kernel_rfl) (by kernel_rfl) (fun _ _ _ h => h) (Or.inr ⟨by kernel_rfl, rfl⟩) (by assumption) ?_
          (try simp only [Act.put, List.getElem_toArray, List.getElem_cons_zero, List.getElem_cons_succ, List.setIfInBounds_toArray, List.set_cons_zero, List.set_cons_succ])
          refine wpAnyH_take (i := 10) (v := undef) rfl (by kernel_rfl) (by kernel_rfl) (by kernel_rfl) (fun _ _ _ h => h) (Or.inr ⟨by kernel_rfl, rfl⟩) (by assumption) ?_
          (try simp only [Act.put, List.getElem_toArray, List.getElem_cons_zero, List.getElem_cons_succ, List.setIfInBounds_toArray, List.set_cons_zero, List.set_cons_succ])
          refine wpAnyH_take (i := 11) (v := undef) rfl (by kernel_rfl) (by kernel_rfl) (by kernel_rfl) (fun _ _ _ h => h) (Or.inr ⟨by kernel_rfl, rfl⟩) (by assumption) ?_
          (try simp only [Act.put, List.getElem_toArray, List.getElem_cons_zero, List.getElem_cons_succ, List.setIfInBounds_toArray, List.set_cons_zero, List.set_cons_succ])
          refine wpAnyH_take (i := 12) (v := undef) rfl (by kernel_rfl) (by kernel_rfl) (by kernel_rfl) (fun _ _ _ h => h) (Or.inr ⟨by kernel_rfl, rfl⟩) (by assumption) ?_
          (try simp only [Act.put, List.getElem_toArray, List.getElem_cons_zero, List.getElem_cons_succ, List.setIfInBounds_toArray, List.set_cons_zero, List.set_cons_succ])
          refine wpAnyH_take (i := 13) (v := undef) rfl (by kernel_rfl) (by kernel_rfl) (by kernel_rfl) (fun _ _ _ h => h) (Or.inr ⟨by kernel_rfl, rfl⟩) (by assumption) ?_
          (try simp only [Act.put, List.getElem_toArray, List.getElem_cons_zero, List.getElem_cons_succ, List.setIfInBounds_toArray, List.set_cons_zero, List.set_cons_succ])
          refine wpAnyH_take (i := 14) (v := undef) rfl (by kernel_rfl) (by kernel_rfl) (by kernel_rfl) (fun _ _ _ h => h) (Or.inr ⟨by kernel_rfl, rfl⟩) (by assumption) ?_
          (try simp only [Act.put, List.getElem_toArray, List.getElem_cons_zero, List.getElem_cons_succ, List.setIfInBounds_toArray, List.set_cons_zero, List.set_cons_succ])
          refine wpAnyH_take (i := 15) (v := undef) rfl (by kernel_rfl) (by kernel_rfl) (by kernel_rfl) (fun _ _ _ h => h) (Or.inr ⟨by kernel_rfl, rfl⟩) (by assumption) ?_
          (try simp only [Act.put, List.getElem_toArray, List.getElem_cons_zero, List.getElem_cons_succ, List.setIfInBounds_toArray, List.set_cons_zero, List.set_cons_succ])
          refine wpAnyH_take (i := 16) (v := undef) rfl (by kernel_rfl) (by kernel_rfl) (by kernel_rfl) (fun _ _ _ h => h) (Or.inr ⟨by kernel_rfl, rfl⟩) (by assumption) ?_
          (try simp only [Act.put, List.getElem_toArray, List.getElem_cons_zero, List.getElem_cons_succ, List.setIfInBounds_toArray, List.set_cons_zero, List.set_cons_succ])
          refine wpAnyH_take (i := 17) (v := undef) rfl (by kernel_rfl) (by kernel_rfl) (by kernel_rfl) (fun _ _ _ h => h) (Or.inr ⟨by kernel_rfl, rfl⟩) (by assumption) ?_
          (try simp only [Act.put, List.getElem_toArray, List.getElem_cons_zero, List.getElem_cons_succ, List.setIfInBounds_toArray, List.set_cons_zero, List.set_cons_succ])
          refine wpAnyH_take (i := 18) (v := undef) rfl (by kernel_rfl) (by kernel_rfl) (by kernel_rfl) (fun _ _ _ h => h) (Or.inr ⟨by kernel_rfl, rfl⟩) (by assumption) ?_
          (try simp only [Act.put, List.getElem_toArray, List.getElem_cons_zero, List.getElem_cons_succ, List.setIfInBounds_toArray, List.set_cons_zero, List.set_cons_succ])
          refine wpAnyH_take (i := 19) (v := undef) rfl (by kernel_rfl) (by kernel_rfl) (by kernel_rfl) (fun _ _ _ h => h) (Or.inr ⟨by kernel_rfl, rfl⟩) (by assumption) ?_
          (try simp only [Act.put, List.getElem_toArray, List.getElem_cons_zero, List.getElem_cons_succ, List.setIfInBounds_toArray, List.set_cons_zero, List.set_cons_succ])
          refine wpAnyH_take (i := 20) (v := undef) rfl (by kernel_rfl) (by kernel_rfl) (by kernel_rfl) (fun _ _ _ h => h) (Or.inr ⟨by kernel_rfl, rfl⟩) (by assumption) ?_
          (try simp only [Act.put, List.getElem_toArray, List.getElem_cons_zero, List.getElem_cons_succ, List.setIfInBounds_toArray, List.set_cons_zero, List.set_cons_succ])
          refine wpAnyH_take (i := 21) (v := ?_) rfl (by kernel_rfl) (by kernel_rfl) (by kernel_rfl) (fun _ _ _ h => h) (Or.inl ⟨by kernel_rfl, ?_⟩) (by assumption) ?_
          rotate_left
          ·intro w hSw; (try dsimp only at hSw); go_simp; (try with_reducible rfl)
          (try simp only [Act.put, List.getElem_toArray, List.getElem_cons_zero, List.getElem_cons_succ, List.setIfInBounds_toArray, List.set_cons_zero, List.set_cons_succ])
          refine wpAnyH_take (i := 22) (v := ?_) rfl (by kernel_rfl) (by kernel_rfl) (by kernel_rfl) (fun _ _ _ h => h) (Or.inl ⟨by kernel_rfl, ?_⟩) (by assumption) ?_
          rotate_left
          ·intro w hSw; (try dsimp only at hSw); go_simp; (try with_reducible rfl)
          (try simp only [Act.put, List.getElem_toArray, List.getElem_cons_zero, List.getElem_cons_succ, List.setIfInBounds_toArray, List.set_cons_zero, List.set_cons_succ])
          refine wpAnyH_take (i := 23) (v := undef) rfl (by kernel_rfl) (by kernel_rfl) (by kernel_rfl) (fun _ _ _ h => h) (Or.inr ⟨by kernel_rfl, rfl⟩) (by assumption) ?_
          (try simp only [Act.put, List.getElem_toArray, List.getElem_cons_zero, List.getElem_cons_succ, List.setIfInBounds_toArray, List.set_cons_zero, List.set_cons_succ])
          refine wpAnyH_take (i := 24) (v := undef) rfl (by kernel_rfl) (by kernel_rfl) (by kernel_rfl) (fun _ _ _ h => h) (Or.inr ⟨by kernel_rfl, rfl⟩) (by assumption) ?_
          (try simp only [Act.put, List.getElem_toArray, List.getElem_cons_zero, List.getElem_cons_succ, List.setIfInBounds_toArray, List.set_cons_zero, List.set_cons_succ])
          refine wpAnyH_take (i := 25) (v := undef) rfl (by kernel_rfl) (by kernel_rfl) (by kernel_rfl) (fun _ _ _ h => h) (Or.inr ⟨by kernel_rfl, rfl⟩) (by assumption) ?_
          (try simp only [Act.put, List.getElem_toArray, List.getElem_cons_zero, List.getElem_cons_succ, List.setIfInBounds_toArray, List.set_cons_zero, List.set_cons_succ])
          refine wpAnyH_take (i := 26) (v := undef) rfl (by kernel_rfl) (by kernel_rfl) (by kernel_rfl) (fun _ _ _ h => h) (Or.inr ⟨by kernel_rfl, rfl⟩) (by assumption) ?_
          (try simp only [Act.put, List.getElem_toArray, List.getElem_cons_zero, List.getElem_cons_succ, List.setIfInBounds_toArray, List.set_cons_zero, List.set_cons_succ])
          refine wpAnyH_take (i := 27) (v := undef) rfl (by kernel_rfl) (by kernel_rfl) (by kernel_rfl) (fun _ _ _ h => h) (Or.inr ⟨by kernel_rfl, rfl⟩) (by assumption) ?_
          (try simp only [Act.put, List.getElem_toArray, List.getElem_cons_zero, List.getElem_cons_succ, List.setIfInBounds_toArray, List.set_cons_zero, List.set_cons_succ])
          refine wpAnyH_take (i := 28) (v := undef) rfl (by kernel_rfl) (by kernel_rfl) (by kernel_rfl) (fun _ _ _ h => h) (Or.inr ⟨by kernel_rfl, rfl⟩) (by assumption) ?_
          (try simp only [Act.put, List.getElem_toArray, List.getElem_cons_zero, List.getElem_cons_succ, List.setIfInBounds_toArray, List.set_cons_zero, List.set_cons_succ])
          refine wpAnyH_take (i := 29) (v := undef) rfl (by kernel_rfl) (by kernel_rfl) (by kernel_rfl) (fun _ _ _ h => h) (Or.inr ⟨by kernel_rfl, rfl⟩) (by assumption) ?_
          (try simp only [Act.put, List.getElem_toArray, List.getElem_cons_zero, List.getElem_cons_succ, List.setIfInBounds_toArray, List.set_cons_zero, List.set_cons_succ])
          refine wpAnyH_take (i := 30) (v := undef) rfl (by kernel_rfl) (by kernel_rfl) (by kernel_rfl) (fun _ _ _ h => h) (Or.inr ⟨by kernel_rfl, rfl⟩) (by assumption) ?_
          (try simp only [Act.put, List.getElem_toArray, List.getElem_cons_zero, List.getElem_cons_succ, List.setIfInBounds_toArray, List.set_cons_zero, List.set_cons_succ])
          refine wpAnyH_take (i := 31) (v := undef) rfl (by kernel_rfl) (by kernel_rfl) (by kernel_rfl) (fun _ _ _ h => h) (Or.inr ⟨by kernel_rfl, rfl⟩) (by assumption) ?_
          (try simp only [Act.put, List.getElem_toArray, List.getElem_cons_zero, List.getElem_cons_succ, List.setIfInBounds_toArray, List.set_cons_zero, List.set_cons_succ])
          refine wpAnyH_take (i := 32) (v := undef) rfl (by kernel_rfl) (by kernel_rfl) (by kernel_rfl) (fun _ _ _ h => h) (Or.inr ⟨by kernel_rfl, rfl⟩) (by assumption) ?_
          (try simp only [Act.put, List.getElem_toArray, List.getElem_cons_zero, List.getElem_cons_succ, List.setIfInBounds_toArray, List.set_cons_zero, List.set_cons_succ])
          refine wpAnyH_take (i := 33) (v := undef) rfl (by kernel_rfl) (by kernel_rfl) (by kernel_rfl) (fun _ _ _ h => h) (Or.inr ⟨by kernel_rfl, rfl⟩) (by assumption) ?_
          (try simp only [Act.put, List.getElem_toArray, List.getElem_cons_zero, List.getElem_cons_succ, List.setIfInBounds_toArray, List.set_cons_zero, List.set_cons_succ])
          refine wpAnyH_take (i := 34) (v := undef) rfl (by kernel_rfl) (by kernel_rfl) (by kernel_rfl) (fun _ _ _ h => h) (Or.inr ⟨by kernel_rfl, rfl⟩) (by assumption) ?_
          (try simp only [Act.put, List.getElem_toArray, List.getElem_cons_zero, List.getElem_cons_succ, List.setIfInBounds_toArray, List.set_cons_zero, List.set_cons_succ])
          refine wpAnyH_take (i := 35) (v := undef) rfl (by kernel_rfl) (by kernel_rfl) (by kernel_rfl) (fun _ _ _ h => h) (Or.inr ⟨by kernel_rfl, rfl⟩) (by assumption) ?_
          (try simp only [Act.put, List.getElem_toArray, List.getElem_cons_zero, List.getElem_cons_succ, List.setIfInBounds_toArray, List.set_cons_zero, List.set_cons_succ])
          refine wpAnyH_take (i := 36) (v := undef) rfl (by kernel_rfl) (by kernel_rfl) (by kernel_rfl) (fun _ _ _ h => h) (Or.inr ⟨by kernel_rfl, rfl⟩) (by assumption) ?_
          (try simp only [Act.put, List.getElem_toArray, List.getElem_cons_zero, List.getElem_cons_succ, List.setIfInBounds_toArray, List.set_cons_zero, List.set_cons_succ])
          refine wpAnyH_take (i := 37) (v := ?_) rfl (by kernel_rfl) (by kernel_rfl) (by kernel_rfl) (fun _ _ _ h => h) (Or.inl ⟨by kernel_rfl, ?_⟩) (by assumption) ?_
          rotate_left
          ·intro w hSw; (try dsimp only at hSw); go_simp; (try with_reducible rfl)
          (try simp only [Act.put, List.getElem_toArray, List.getElem_cons_zero, List.getElem_cons_succ, List.setIfInBounds_toArray, List.set_cons_zero, List.set_cons_succ])
          refine wpAnyH_done (by kernel_rfl) ?_ _
          clear hHeld0
          go_wp2_with fail
          go_roundw
          case rel => (first | exact ⟨ag, y + 1, P2, rfl, by go_num, by omega, HG3.out, HN⟩ | ((repeat apply Exists.intro); exact ⟨⟨ag, y + 1, P2, rfl, by go_num, by omega, HG3.out, HN⟩, rfl⟩))
          case measure => simp [intOf]; omega
         | true =>
          cases ub with
          | true =>
           have HN := Lib.hid (hMD2.out.keep (done' := fun c d => (c < x ∧ d < i) ∨ (c = x ∧ d < y + 1)) fun c d e => by
            by_cases e2 : d = y ∧ c = x
            ·obtain ⟨rfl, rfl⟩ := e2
             exact .inr fun e => HQQ.out.2 (.inl (of_decide_eq_true HUB.out))
            ·exact .inl (by omega))
           go_wp2_with fail
           refine wp_region_held_drew (S := (fun W => W.cell? ⟨g, x, none⟩ = some (.slice (some ⟨b, 0, none⟩) i i) ∧ W.cell? ⟨b, y, none⟩ = some (.bool true) ∧ W.cell? ⟨tb, to + x * 4, none⟩ = some (.string sx) ∧ W.cell? ⟨tb, to + y * 4, none⟩ = some (.string sy) ∧ Kept wc W)) (by kernel_rfl) ⟨s0, s1, s2, s3, (Kept.refl wc).drew⟩ (fun hHeld0 => ?_)
           clear s0 s1 s2 s3
           refine wpAnyH_take (i := 0) (v := ?_) rfl (by kernel_rfl) (by kernel_rfl) (by kernel_rfl) (fun _ _ _ h => h) (Or.inl ⟨by kernel_rfl, ?_⟩) (by assumption) ?_
           rotate_left
           ·intro w hSw; (try dsimp only at hSw); go_simp; (try with_reducible rfl)
           (try simp only [Act.put, List.getElem_toArray, List.getElem_cons_zero, List.getElem_cons_succ, List.setIfInBounds_toArray, List.set_cons_zero, List.set_cons_succ])
           refine wpAnyH_take (i := 1) (v := ?_) rfl (by kernel_rfl) (by kernel_rfl) (by kernel_rfl) (fun _ _ _ h => h) (Or.inl ⟨by kernel_rfl, ?_⟩) (by assumption) ?_
           rotate_left
           ·intro w hSw; (try dsimp only at hSw); go_simp; (try with_reducible rfl)
           (try simp only [Act.put, List.getElem_toArray, List.getElem_cons_zero, List.getElem_cons_succ, List.setIfInBounds_toArray, List.set_cons_zero, List.set_cons_succ])
           refine wpAnyH_take (i := 2) (v := ?_) rfl (by kernel_rfl) (by kernel_rfl) (by kernel_rfl) (fun _ _ _ h => h) (Or.inl ⟨by kernel_rfl, ?_⟩) (by assumption) ?_
           rotate_left
           ·intro w hSw; (try dsimp only at hSw); go_simp; (try with_reducible rfl)
           (try simp only [Act.put, List.getElem_toArray, List.getElem_cons_zero, List.getElem_cons_succ, List.setIfInBounds_toArray, List.set_cons_zero, List.set_cons_succ])
           refine wpAnyH_take (i := 3) (v := ?_) rfl (by kernel_rfl) (by kernel_rfl) (by kernel_rfl) (fun _ _ _ h => h) (Or.inl ⟨by kernel_rfl, ?_⟩) (by assumption) ?_
           rotate_left
           ·intro w hSw; (try dsimp only at hSw); go_simp; (try with_reducible rfl)
           (try simp only [Act.put, List.getElem_toArray, List.getElem_cons_zero, List.getElem_cons_succ, List.setIfInBounds_toArray, List.set_cons_zero, List.set_cons_succ])
           refine wpAnyH_take (i := 4) (v := ?_) rfl (by kernel_rfl) (by kernel_rfl) (by kernel_rfl) (fun _ _ _ h => h) (Or.inl ⟨by kernel_rfl, ?_⟩) (by assumption) ?_
           rotate_left
           ·intro w hSw; (try dsimp only at hSw); go_simp; (try with_reducible rfl)
           (try simp only [Act.put, List.getElem_toArray, List.getElem_cons_zero, List.getElem_cons_succ, List.setIfInBounds_toArray, List.set_cons_zero, List.set_cons_succ])
           refine wpAnyH_take (i := 5) (v := ?_) rfl (by kernel_rfl) (by kernel_rfl) (by kernel_rfl) (fun _ _ _ h => h) (Or.inl ⟨by kernel_rfl, ?_⟩) (by assumption) ?_
           rotate_left
           ·intro w hSw; (try dsimp only at hSw); go_simp; (try with_reducible rfl)
           (try simp only [Act.put, List.getElem_toArray, List.getElem_cons_zero, List.getElem_cons_succ, List.setIfInBounds_toArray, List.set_cons_zero, List.set_cons_succ])
           refine wpAnyH_take (i := 6) (v := ?_) rfl (by kernel_rfl) (by kernel_rfl) (by kernel_rfl) (fun _ _ _ h => h) (Or.inl ⟨by kernel_rfl, ?_⟩) (by assumption) ?_
           rotate_left
           ·intro w hSw; (try dsimp only at hSw); go_simp; (try with_reducible rfl)
           (try simp only [Act.put, List.getElem_toArray, List.getElem_cons_zero, List.getElem_cons_succ, List.setIfInBounds_toArray, List.set_cons_zero, List.set_cons_succ])
           refine wpAnyH_take (i := 7) (v := ?_) rfl (by kernel_rfl) (by kernel_rfl) (by kernel_rfl) (fun _ _ _ h => h) (Or.inl ⟨by kernel_rfl, ?_⟩) (by assumption) ?_
           rotate_left
           ·intro w hSw; (try dsimp only at hSw); go_simp; (try with_reducible rfl)
           (try simp only [Act.put, List.getElem_toArray, List.getElem_cons_zero, List.getElem_cons_succ, List.setIfInBounds_toArray, List.set_cons_zero, List.set_cons_succ])
           refine wpAnyH_take (i := 8) (v := ?_) rfl (by kernel_rfl) (by kernel_rfl) (by kernel_rfl) (fun _ _ _ h => h) (Or.inl ⟨by kernel_rfl, ?_⟩) (by assumption) ?_
           rotate_left
           ·intro w hSw; (try dsimp only at hSw); go_simp; (try with_reducible rfl)
           (try simp only [Act.put, List.getElem_toArray, List.getElem_cons_zero, List.getElem_cons_succ, List.setIfInBounds_toArray, List.set_cons_zero, List.set_cons_succ])
           refine wpAnyH_take (i := 9) (v := ?_) rfl (by kernel_rfl) (by kernel_rfl) (by kernel_rfl) (fun _ _ _ h => h) (Or.inl ⟨by kernel_rfl, ?_⟩) (by assumption) ?_
           rotate_left
           ·intro w hSw; (try dsimp only at hSw); go_simp; (try with_reducible rfl)
           (try simp only [Act.put, List.getElem_toArray, List.getElem_cons_zero, List.getElem_cons_succ, List.setIfInBounds_toArray, List.set_cons_zero, List.set_cons_succ])
           refine wpAnyH_take (i := 10) (v := ?_) rfl (by kernel_rfl) (by kernel_rfl) (by kernel_rfl) (fun _ _ _ h => h) (Or.inl ⟨by kernel_rfl, ?_⟩) (by assumption) ?_
           rotate_left
           ·intro w hSw; (try dsimp only at hSw); go_simp; (try with_reducible rfl)
           (try simp only [Act.put, List.getElem_toArray, List.getElem_cons_zero, List.getElem_cons_succ, List.setIfInBounds_toArray, List.set_cons_zero, List.set_cons_succ])
           refine wpAnyH_take (i := 11) (v := ?_) rfl (by kernel_rfl) (by kernel_rfl) (by kernel_rfl) (fun _ _ _ h => h) (Or.inl ⟨by kernel_rfl, ?_⟩) (by assumption) ?_
           rotate_left
           ·intro w hSw; (try dsimp only at hSw); go_simp; (try with_reducible rfl)
           (try simp only [Act.put, List.getElem_toArray, List.getElem_cons_zero, List.getElem_cons_succ, List.setIfInBounds_toArray, List.set_cons_zero, List.set_cons_succ])
           refine wpAnyH_take (i := 12) (v := ?_) rfl (by kernel_rfl) (by kernel_rfl) (by kernel_rfl) (fun _ _ _ h => h) (Or.inl ⟨by kernel_rfl, ?_⟩) (by assumption) ?_
           rotate_left
           ·intro w hSw; (try dsimp only at hSw); go_simp; (try with_reducible rfl)
           (try simp only [Act.put, List.getElem_toArray, List.getElem_cons_zero, List.getElem_cons_succ, List.setIfInBounds_toArray, List.set_cons_zero, List.set_cons_succ])
           refine wpAnyH_take (i := 13) (v := ?_) rfl (by kernel_rfl) (by kernel_rfl) (by kernel_rfl) (fun _ _ _ h => h) (Or.inl ⟨by kernel_rfl, ?_⟩) (by assumption) ?_
           rotate_left
           ·intro w hSw; (try dsimp only at hSw); go_simp; (try with_reducible rfl)
           (try simp only [Act.put, List.getElem_toArray, List.getElem_cons_zero, List.getElem_cons_succ, List.setIfInBounds_toArray, List.set_cons_zero, List.set_cons_succ])
           refine wpAnyH_take (i := 14) (v := ?_) rfl (by kernel_rfl) (by kernel_rfl) (by kernel_rfl) (fun _ _ _ h => h) (Or.inl ⟨by kernel_rfl, ?_⟩) (by assumption) ?_
           rotate_left
           ·intro w hSw; (try dsimp only at hSw); go_simp; (try with_reducible rfl)
           (try simp only [Act.put, List.getElem_toArray, List.getElem_cons_zero, List.getElem_cons_succ, List.setIfInBounds_toArray, List.set_cons_zero, List.set_cons_succ])
           refine wpAnyH_take (i := 15) (v := ?_) rfl (by kernel_rfl) (by kernel_rfl) (by kernel_rfl) (fun _ _ _ h => h) (Or.inl ⟨by kernel_rfl, ?_⟩) (by assumption) ?_
           rotate_left
           ·intro w hSw; (try dsimp only at hSw); go_simp; (try with_reducible rfl)
           (try simp only [Act.put, List.getElem_toArray, List.getElem_cons_zero, List.getElem_cons_succ, List.setIfInBounds_toArray, List.set_cons_zero, List.set_cons_succ])
           refine wpAnyH_take (i := 16) (v := ?_) rfl (by kernel_rfl) (by kernel_rfl) (by kernel_rfl) (fun _ _ _ h => h) (Or.inl ⟨by kernel_rfl, ?_⟩) (by assumption) ?_
           rotate_left
           ·intro w hSw; (try dsimp only at hSw); go_simp; (try with_reducible rfl)
           (try simp only [Act.put, List.getElem_toArray, List.getElem_cons_zero, List.getElem_cons_succ, List.setIfInBounds_toArray, List.set_cons_zero, List.set_cons_succ])
           refine wpAnyH_take (i := 17) (v := ?_) rfl (by kernel_rfl) (by kernel_rfl) (by kernel_rfl) (fun _ _ _ h => h) (Or.inl ⟨by kernel_rfl, ?_⟩) (by assumption) ?_
           rotate_left
           ·intro w hSw; (try dsimp only at hSw); go_simp; (try with_reducible rfl)
           (try simp only [Act.put, List.getElem_toArray, List.getElem_cons_zero, List.getElem_cons_succ, List.setIfInBounds_toArray, List.set_cons_zero, List.set_cons_succ])
           refine wpAnyH_take (i := 18) (v := ?_) rfl (by kernel_rfl) (by kernel_rfl) (by kernel_rfl) (fun _ _ _ h => h) (Or.inl ⟨by kernel_rfl, ?_⟩) (by assumption) ?_
           rotate_left
           ·intro w hSw; (try dsimp only at hSw); go_simp; (try with_reducible rfl)
           (try simp only [Act.put, List.getElem_toArray, List.getElem_cons_zero, List.getElem_cons_succ, List.setIfInBounds_toArray, List.set_cons_zero, List.set_cons_succ])
           refine wpAnyH_ready (rs := [19]) (by kernel_rfl) (by simp) ?_
           refine AllReadyH.cons rfl (fun K hK => ?_) AllReadyH.nil
           go_simp
           go_at_call 97
           refine HSB.out.mono ?_
           rintro e w5 ⟨rfl, k5⟩
           have k6 := (Kept.refl wc).drew.trans k5
           refine hK.out _ _ ⟨k6.cell hcell, k6.cell c1, k6.cell cx, k6.cell cy, k6⟩ (fun hHeld1 => ?_)
           clear hK K
           (try simp only [Act.put, List.getElem_toArray, List.getElem_cons_zero, List.getElem_cons_succ, List.setIfInBounds_toArray, List.set_cons_zero, List.set_cons_succ])
           refine wpAnyH_take (i := 20) (v := ?_) rfl (by kernel_rfl) (by kernel_rfl) (by kernel_rfl) (fun _ _ _ h => h) (Or.inl ⟨by kernel_rfl, ?_⟩) (by assumption) ?_
           rotate_left
           ·intro w hSw; (try dsimp only at hSw); go_simp; (try with_reducible rfl)
           (try simp only [Act.put, List.getElem_toArray, List.getElem_cons_zero, List.getElem_cons_succ, List.setIfInBounds_toArray, List.set_cons_zero, List.set_cons_succ])
           refine wpAnyH_take (i := 21) (v := ?_) rfl (by kernel_rfl) (by kernel_rfl) (by kernel_rfl) (fun _ _ _ h => h) (Or.inl ⟨by kernel_rfl, ?_⟩) (by assumption) ?_
           rotate_left
           ·intro w hSw; (try dsimp only at hSw); go_simp; (try with_reducible rfl)
           (try simp only [Act.put, List.getElem_toArray, List.getElem_cons_zero, List.getElem_cons_succ, List.setIfInBounds_toArray, List.set_cons_zero, List.set_cons_succ])
           refine wpAnyH_take (i := 22) (v := ?_) rfl (by kernel_rfl) (by kernel_rfl) (by kernel_rfl) (fun _ _ _ h => h) (Or.inl ⟨by kernel_rfl, ?_⟩) (by assumption) ?_
           rotate_left
           ·intro w hSw; (try dsimp only at hSw); go_simp; (try with_reducible rfl)
           (try simp only [Act.put, List.getElem_toArray, List.getElem_cons_zero, List.getElem_cons_succ, List.setIfInBounds_toArray, List.set_cons_zero, List.set_cons_succ])
           refine wpAnyH_take (i := 23) (v := undef) rfl (by kernel_rfl) (by kernel_rfl) (by kernel_rfl) (fun _ _ _ h => h) (Or.inr ⟨by kernel_rfl, rfl⟩) (by assumption) ?_
           (try simp only [Act.put, List.getElem_toArray, List.getElem_cons_zero, List.getElem_cons_succ, List.setIfInBounds_toArray, List.set_cons_zero, List.set_cons_succ])
           refine wpAnyH_take (i := 24) (v := undef) rfl (by kernel_rfl) (by kernel_rfl) (by kernel_rfl) (fun _ _ _ h => h) (Or.inr ⟨by kernel_rfl, rfl⟩) (by assumption) ?_
           (try simp only [Act.put, List.getElem_toArray, List.getElem_cons_zero, List.getElem_cons_succ, List.setIfInBounds_toArray, List.set_cons_zero, List.set_cons_succ])
           refine wpAnyH_take (i := 25) (v := undef) rfl (by kernel_rfl) (by kernel_rfl) (by kernel_rfl) (fun _ _ _ h => h) (Or.inr ⟨by kernel_rfl, rfl⟩) (by assumption) ?_
           (try simp only [Act.put, List.getElem_toArray, List.getElem_cons_zero, List.getElem_cons_succ, List.setIfInBounds_toArray, List.set_cons_zero, List.set_cons_succ])
           refine wpAnyH_take (i := 26) (v := undef) rfl (by kernel_rfl) (by kernel_rfl) (by kernel_rfl) (fun _ _ _ h => h) (Or.inr ⟨by kernel_rfl, rfl⟩) (by assumption) ?_
           (try simp only [Act.put, List.getElem_toArray, List.getElem_cons_zero, List.getElem_cons_succ, List.setIfInBounds_toArray, List.set_cons_zero, List.set_cons_succ])
           refine wpAnyH_take (i := 27) (v := undef) rfl (by kernel_rfl) (by kernel_rfl) (by kernel_rfl) (fun _ _ _ h => h) (Or.inr ⟨by kernel_rfl, rfl⟩) (by assumption) ?_
           (try simp only [Act.put, List.getElem_toArray, List.getElem_cons_zero, List.getElem_cons_succ, List.setIfInBounds_toArray, List.set_cons_zero, List.set_cons_succ])
           refine wpAnyH_take (i := 28) (v := undef) rfl (by kernel_rfl) (by kernel_rfl) (by kernel_rfl) (fun _ _ _ h => h) (Or.inr ⟨by kernel_rfl, rfl⟩) (by assumption) ?_
           (try simp only [Act.put, List.getElem_toArray, List.getElem_cons_zero, List.getElem_cons_succ, List.setIfInBounds_toArray, List.set_cons_zero, List.set_cons_succ])
           refine wpAnyH_take (i := 29) (v := undef) rfl (by kernel_rfl) (by kernel_rfl) (by kernel_rfl) (fun _ _ _ h => h) (Or.inr ⟨by kernel_rfl, rfl⟩) (by assumption) ?_
           (try simp only [Act.put, List.getElem_toArray, List.getElem_cons_zero, List.getElem_cons_succ, List.setIfInBounds_toArray, List.set_cons_zero, List.set_cons_succ])
           refine wpAnyH_take (i := 30) (v := undef) rfl (by kernel_rfl) (by kernel_rfl) (by kernel_rfl) (fun _ _ _ h => h) (Or.inr ⟨by kernel_rfl, rfl⟩) (by assumption) ?_
           (try simp only [Act.put, List.getElem_toArray, List.getElem_cons_zero, List.getElem_cons_succ, List.setIfInBounds_toArray, List.set_cons_zero, List.set_cons_succ])
           refine wpAnyH_take (i := 31) (v := undef) rfl (by kernel_rfl) (by kernel_rfl) (by kernel_rfl) (fun _ _ _ h => h) (Or.inr ⟨by kernel_rfl, rfl⟩) (by assumption) ?_
           (try simp only [Act.put, List.getElem_toArray, List.getElem_cons_zero, List.getElem_cons_succ, List.setIfInBounds_toArray, List.set_cons_zero, List.set_cons_succ])
           refine wpAnyH_take (i := 32) (v := undef) rfl (by kernel_rfl) (by kernel_rfl) (by kernel_rfl) (fun _ _ _ h => h) (Or.inr ⟨by kernel_rfl, rfl⟩) (by assumption) ?_
           (try simp only [Act.put, List.getElem_toArray, List.getElem_cons_zero, List.getElem_cons_succ, List.setIfInBounds_toArray, List.set_cons_zero, List.set_cons_succ])
           refine wpAnyH_take (i := 33) (v := undef) rfl (by kernel_rfl) (by kernel_rfl) (by kernel_rfl) (fun _ _ _ h => h) (Or.inr ⟨by kernel_rfl, rfl⟩) (by assumption) ?_
           (try simp only [Act.put, List.getElem_toArray, List.getElem_cons_zero, List.getElem_cons_succ, List.setIfInBounds_toArray, List.set_cons_zero, List.set_cons_succ])
           refine wpAnyH_take (i := 34) (v := undef) rfl (by kernel_rfl) (by kernel_rfl) (by kernel_rfl) (fun _ _ _ h => h) (Or.inr ⟨by kernel_rfl, rfl⟩) (by assumption) ?_
           (try simp only [Act.put, List.getElem_toArray, List.getElem_cons_zero, List.getElem_cons_succ, List.setIfInBounds_toArray, List.set_cons_zero, List.set_cons_succ])
           refine wpAnyH_take (i := 35) (v := undef) rfl (by kernel_rfl) (by kernel_rfl) (by kernel_rfl) (fun _ _ _ h => h) (Or.inr ⟨by kernel_rfl, rfl⟩) (by assumption) ?_
           (try simp only [Act.put, List.getElem_toArray, List.getElem_cons_zero, List.getElem_cons_succ, List.setIfInBounds_toArray, List.set_cons_zero, List.set_cons_succ])
           refine wpAnyH_take (i := 36) (v := undef) rfl (by kernel_rfl) (by kernel_rfl) (by kernel_rfl) (fun _ _ _ h => h) (Or.inr ⟨by kernel_rfl, rfl⟩) (by assumption) ?_
           (try simp only [Act.put, List.getElem_toArray, List.getElem_cons_zero, List.getElem_cons_succ, List.setIfInBounds_toArray, List.set_cons_zero, List.set_cons_succ])
           refine wpAnyH_take (i := 37) (v := ?_) rfl (by kernel_rfl) (by kernel_rfl) (by kernel_rfl) (fun _ _ _ h => h) (Or.inl ⟨by kernel_rfl, ?_⟩) (by assumption) ?_
           rotate_left
           ·intro w hSw; (try dsimp only at hSw); go_simp; (try with_reducible rfl)
           (try simp only [Act.put, List.getElem_toArray, List.getElem_cons_zero, List.getElem_cons_succ, List.setIfInBounds_toArray, List.set_cons_zero, List.set_cons_succ])
           refine wpAnyH_done (by kernel_rfl) ?_ _
           have HG3 := Lib.hid (HG2.out.keep k6)
           clear hHeld0 hHeld1 hcell c1 cx cy k5 k6
           go_wp2_with fail
           go_roundw
           case rel => (first | exact ⟨ag, y + 1, P2, rfl, by go_num, by omega, HG3.out, HN⟩ | ((repeat apply Exists.intro); exact ⟨⟨ag, y + 1, P2, rfl, by go_num, by omega, HG3.out, HN⟩, rfl⟩))
           case measure => simp [intOf]; omega
          | false =>
           go_wp2_with fail
           refine wp_region_held_drew (S := (fun W => W.cell? ⟨g, x, none⟩ = some (.slice (some ⟨b, 0, none⟩) i i) ∧ W.cell? ⟨b, y, none⟩ = some (.bool true) ∧ W.cell? ⟨tb, to + x * 4, none⟩ = some (.string sx) ∧ W.cell? ⟨tb, to + y * 4, none⟩ = some (.string sy) ∧ Kept wc W)) (by kernel_rfl) ⟨s0, s1, s2, s3, (Kept.refl wc).drew⟩ (fun hHeld0 => ?_)
           clear s0 s1 s2 s3
           refine wpAnyH_take (i := 0) (v := ?_) rfl (by kernel_rfl) (by kernel_rfl) (by kernel_rfl) (fun _ _ _ h => h) (Or.inl ⟨by kernel_rfl, ?_⟩) (by assumption) ?_
           rotate_left
           ·intro w hSw; (try dsimp only at hSw); go_simp; (try with_reducible rfl)
           (try simp only [Act.put, List.getElem_toArray, List.getElem_cons_zero, List.getElem_cons_succ, List.setIfInBounds_toArray, List.set_cons_zero, List.set_cons_succ])
           refine wpAnyH_take (i := 1) (v := ?_) rfl (by kernel_rfl) (by kernel_rfl) (by kernel_rfl) (fun _ _ _ h => h) (Or.inl ⟨by kernel_rfl, ?_⟩) (by assumption) ?_
           rotate_left
           ·intro w hSw; (try dsimp only at hSw); go_simp; (try with_reducible rfl)
           (try simp only [Act.put, List.getElem_toArray, List.getElem_cons_zero, List.getElem_cons_succ, List.setIfInBounds_toArray, List.set_cons_zero, List.set_cons_succ])
           refine wpAnyH_take (i := 2) (v := ?_) rfl (by kernel_rfl) (by kernel_rfl) (by kernel_rfl) (fun _ _ _ h => h) (Or.inl ⟨by kernel_rfl, ?_⟩) (by assumption) ?_
           rotate_left
           ·intro w hSw; (try dsimp only at hSw); go_simp; (try with_reducible rfl)
           (try simp only [Act.put, List.getElem_toArray, List.getElem_cons_zero, List.getElem_cons_succ, List.setIfInBounds_toArray, List.set_cons_zero, List.set_cons_succ])
           refine wpAnyH_take (i := 3) (v := ?_) rfl (by kernel_rfl) (by kernel_rfl) (by kernel_rfl) (fun _ _ _ h => h) (Or.inl ⟨by kernel_rfl, ?_⟩) (by assumption) ?_
           rotate_left
           ·intro w hSw; (try dsimp only at hSw); go_simp; (try with_reducible rfl)
           (try simp only [Act.put, List.getElem_toArray, List.getElem_cons_zero, List.getElem_cons_succ, List.setIfInBounds_toArray, List.set_cons_zero, List.set_cons_succ])
           refine wpAnyH_take (i := 4) (v := ?_) rfl (by kernel_rfl) (by kernel_rfl) (by kernel_rfl) (fun _ _ _ h => h) (Or.inl ⟨by kernel_rfl, ?_⟩) (by assumption) ?_
           rotate_left
           ·intro w hSw; (try dsimp only at hSw); go_simp; (try with_reducible rfl)
           (try simp only [Act.put, List.getElem_toArray, List.getElem_cons_zero, List.getElem_cons_succ, List.setIfInBounds_toArray, List.set_cons_zero, List.set_cons_succ])
           refine wpAnyH_take (i := 5) (v := ?_) rfl (by kernel_rfl) (by kernel_rfl) (by kernel_rfl) (fun _ _ _ h => h) (Or.inl ⟨by kernel_rfl, ?_⟩) (by assumption) ?_
           rotate_left
           ·intro w hSw; (try dsimp only at hSw); go_simp; (try with_reducible rfl)
           (try simp only [Act.put, List.getElem_toArray, List.getElem_cons_zero, List.getElem_cons_succ, List.setIfInBounds_toArray, List.set_cons_zero, List.set_cons_succ])
           refine wpAnyH_take (i := 6) (v := ?_) rfl (by kernel_rfl) (by kernel_rfl) (by kernel_rfl) (fun _ _ _ h => h) (Or.inl ⟨by kernel_rfl, ?_⟩) (by assumption) ?_
           rotate_left
           ·intro w hSw; (try dsimp only at hSw); go_simp; (try with_reducible rfl)
           (try simp only [Act.put, List.getElem_toArray, List.getElem_cons_zero, List.getElem_cons_succ, List.setIfInBounds_toArray, List.set_cons_zero, List.set_cons_succ])
           refine wpAnyH_take (i := 7) (v := ?_) rfl (by kernel_rfl) (by kernel_rfl) (by kernel_rfl) (fun _ _ _ h => h) (Or.inl ⟨by kernel_rfl, ?_⟩) (by assumption) ?_
           rotate_left
           ·intro w hSw; (try dsimp only at hSw); go_simp; (try with_reducible rfl)
           (try simp only [Act.put, List.getElem_toArray, List.getElem_cons_zero, List.getElem_cons_succ, List.setIfInBounds_toArray, List.set_cons_zero, List.set_cons_succ])
           refine wpAnyH_take (i := 8) (v := ?_) rfl (by kernel_rfl) (by kernel_rfl) (by kernel_rfl) (fun _ _ _ h => h) (Or.inl ⟨by kernel_rfl, ?_⟩) (by assumption) ?_
           rotate_left
           ·intro w hSw; (try dsimp only at hSw); go_simp; (try with_reducible rfl)
           (try simp only [Act.put, List.getElem_toArray, List.getElem_cons_zero, List.getElem_cons_succ, List.setIfInBounds_toArray, List.set_cons_zero, List.set_cons_succ])
           refine wpAnyH_take (i := 9) (v := ?_) rfl (by kernel_rfl) (by kernel_rfl) (by kernel_rfl) (fun _ _ _ h => h) (Or.inl ⟨by kernel_rfl, ?_⟩) (by assumption) ?_
           rotate_left
           ·intro w hSw; (try dsimp only at hSw); go_simp; (try with_reducible rfl)
           (try simp only [Act.put, List.getElem_toArray, List.getElem_cons_zero, List.getElem_cons_succ, List.setIfInBounds_toArray, List.set_cons_zero, List.set_cons_succ])
           refine wpAnyH_take (i := 10) (v := ?_) rfl (by kernel_rfl) (by kernel_rfl) (by kernel_rfl) (fun _ _ _ h => h) (Or.inl ⟨by kernel_rfl, ?_⟩) (by assumption) ?_
           rotate_left
           ·intro w hSw; (try dsimp only at hSw); go_simp; (try with_reducible rfl)
           (try simp only [Act.put, List.getElem_toArray, List.getElem_cons_zero, List.getElem_cons_succ, List.setIfInBounds_toArray, List.set_cons_zero, List.set_cons_succ])
           refine wpAnyH_take (i := 11) (v := ?_) rfl (by kernel_rfl) (by kernel_rfl) (by kernel_rfl) (fun _ _ _ h => h) (Or.inl ⟨by kernel_rfl, ?_⟩) (by assumption) ?_
           rotate_left
           ·intro w hSw; (try dsimp only at hSw); go_simp; (try with_reducible rfl)
           (try simp only [Act.put, List.getElem_toArray, List.getElem_cons_zero, List.getElem_cons_succ, List.setIfInBounds_toArray, List.set_cons_zero, List.set_cons_succ])
           refine wpAnyH_take (i := 12) (v := ?_) rfl (by kernel_rfl) (by kernel_rfl) (by kernel_rfl) (fun _ _ _ h => h) (Or.inl ⟨by kernel_rfl, ?_⟩) (by assumption) ?_
           rotate_left
           ·intro w hSw; (try dsimp only at hSw); go_simp; (try with_reducible rfl)
           (try simp only [Act.put, List.getElem_toArray, List.getElem_cons_zero, List.getElem_cons_succ, List.setIfInBounds_toArray, List.set_cons_zero, List.set_cons_succ])
           refine wpAnyH_take (i := 13) (v := ?_) rfl (by kernel_rfl) (by kernel_rfl) (by kernel_rfl) (fun _ _ _ h => h) (Or.inl ⟨by kernel_rfl, ?_⟩) (by assumption) ?_
           rotate_left
           ·intro w hSw; (try dsimp only at hSw); go_simp; (try with_reducible rfl)
           (try simp only [Act.put, List.getElem_toArray, List.getElem_cons_zero, List.getElem_cons_succ, List.setIfInBounds_toArray, List.set_cons_zero, List.set_cons_succ])
           refine wpAnyH_take (i := 14) (v := ?_) rfl (by kernel_rfl) (by kernel_rfl) (by kernel_rfl) (fun _ _ _ h => h) (Or.inl ⟨by kernel_rfl, ?_⟩) (by assumption) ?_
           rotate_left
           ·intro w hSw; (try dsimp only at hSw); go_simp; (try with_reducible rfl)
           (try simp only [Act.put, List.getElem_toArray, List.getElem_cons_zero, List.getElem_cons_succ, List.setIfInBounds_toArray, List.set_cons_zero, List.set_cons_succ])
           refine wpAnyH_take (i := 15) (v := ?_) rfl (by kernel_rfl) (by kernel_rfl) (by kernel_rfl) (fun _ _ _ h => h) (Or.inl ⟨by kernel_rfl, ?_⟩) (by assumption) ?_
           rotate_left
           ·intro w hSw; (try dsimp only at hSw); go_simp; (try with_reducible rfl)
           (try simp only [Act.put, List.getElem_toArray, List.getElem_cons_zero, List.getElem_cons_succ, List.setIfInBounds_toArray, List.set_cons_zero, List.set_cons_succ])
           refine wpAnyH_take (i := 16) (v := ?_) rfl (by kernel_rfl) (by kernel_rfl) (by kernel_rfl) (fun _ _ _ h => h) (Or.inl ⟨by kernel_rfl, ?_⟩) (by assumption) ?_
           rotate_left
           ·intro w hSw; (try dsimp only at hSw); go_simp; (try with_reducible rfl)
           (try simp only [Act.put, List.getElem_toArray, List.getElem_cons_zero, List.getElem_cons_succ, List.setIfInBounds_toArray, List.set_cons_zero, List.set_cons_succ])
           refine wpAnyH_take (i := 17) (v := ?_) rfl (by kernel_rfl) (by kernel_rfl) (by kernel_rfl) (fun _ _ _ h => h) (Or.inl ⟨by kernel_rfl, ?_⟩) (by assumption) ?_
           rotate_left
           ·intro w hSw; (try dsimp only at hSw); go_simp; (try with_reducible rfl)
           (try simp only [Act.put, List.getElem_toArray, List.getElem_cons_zero, List.getElem_cons_succ, List.setIfInBounds_toArray, List.set_cons_zero, List.set_cons_succ])
           refine wpAnyH_take (i := 18) (v := ?_) rfl (by kernel_rfl) (by kernel_rfl) (by kernel_rfl) (fun _ _ _ h => h) (Or.inl ⟨by kernel_rfl, ?_⟩) (by assumption) ?_
           rotate_left
           ·intro w hSw; (try dsimp only at hSw); go_simp; (try with_reducible rfl)
           (try simp only [Act.put, List.getElem_toArray, List.getElem_cons_zero, List.getElem_cons_succ, List.setIfInBounds_toArray, List.set_cons_zero, List.set_cons_succ])
           refine wpAnyH_ready (rs := [19]) (by kernel_rfl) (by simp) ?_
           refine AllReadyH.cons rfl (fun K hK => ?_) AllReadyH.nil
           go_simp
           go_at_call 97
           refine HSB.out.mono ?_
           rintro e w5 ⟨rfl, k5⟩
           have k6 := (Kept.refl wc).drew.trans k5
           refine hK.out _ _ ⟨k6.cell hcell, k6.cell c1, k6.cell cx, k6.cell cy, k6⟩ (fun hHeld1 => ?_)
           clear hK K
           (try simp only [Act.put, List.getElem_toArray, List.getElem_cons_zero, List.getElem_cons_succ, List.setIfInBounds_toArray, List.set_cons_zero, List.set_cons_succ])
           have HK6 := Lib.hid k6
           clear hHeld0 k5 k6
           refine wpAnyH_take (i := 20) (v := ?_) rfl (by kernel_rfl) (by kernel_rfl) (by kernel_rfl) (fun _ _ _ h => h) (Or.inl ⟨by kernel_rfl, ?_⟩) (by assumption) ?_
           rotate_left
           ·intro w hSw; (try dsimp only at hSw); go_simp; (try with_reducible rfl)
           (try simp only [Act.put, List.getElem_toArray, List.getElem_cons_zero, List.getElem_cons_succ, List.setIfInBounds_toArray, List.set_cons_zero, List.set_cons_succ])
           refine wpAnyH_take (i := 21) (v := ?_) rfl (by kernel_rfl) (by kernel_rfl) (by kernel_rfl) (fun _ _ _ h => h) (Or.inl ⟨by kernel_rfl, ?_⟩) (by assumption) ?_
           rotate_left
           ·intro w hSw; (try dsimp only at hSw); go_simp; (try with_reducible rfl)
           (try simp only [Act.put, List.getElem_toArray, List.getElem_cons_zero, List.getElem_cons_succ, List.setIfInBounds_toArray, List.set_cons_zero, List.set_cons_succ])
           refine wpAnyH_take (i := 22) (v := ?_) rfl (by kernel_rfl) (by kernel_rfl) (by kernel_rfl) (fun _ _ _ h => h) (Or.inl ⟨by kernel_rfl, ?_⟩) (by assumption) ?_
           rotate_left
           ·intro w hSw; (try dsimp only at hSw); go_simp; (try with_reducible rfl)
           (try simp only [Act.put, List.getElem_toArray, List.getElem_cons_zero, List.getElem_cons_succ, List.setIfInBounds_toArray, List.set_cons_zero, List.set_cons_succ])
           refine wpAnyH_take (i := 23) (v := ?_) rfl (by kernel_rfl) (by kernel_rfl) (by kernel_rfl) (fun _ _ _ h => h) (Or.inl ⟨by kernel_rfl, ?_⟩) (by assumption) ?_
           rotate_left
           ·intro w hSw; (try dsimp only at hSw); go_simp; (try with_reducible rfl)
           (try simp only [Act.put, List.getElem_toArray, List.getElem_cons_zero, List.getElem_cons_succ, List.setIfInBounds_toArray, List.set_cons_zero, List.set_cons_succ])
           refine wpAnyH_take (i := 24) (v := ?_) rfl (by kernel_rfl) (by kernel_rfl) (by kernel_rfl) (fun _ _ _ h => h) (Or.inl ⟨by kernel_rfl, ?_⟩) (by assumption) ?_
           rotate_left
           ·intro w hSw; (try dsimp only at hSw); go_simp; (try with_reducible rfl)
           (try simp only [Act.put, List.getElem_toArray, List.getElem_cons_zero, List.getElem_cons_succ, List.setIfInBounds_toArray, List.set_cons_zero, List.set_cons_succ])
           refine wpAnyH_take (i := 25) (v := ?_) rfl (by kernel_rfl) (by kernel_rfl) (by kernel_rfl) (fun _ _ _ h => h) (Or.inl ⟨by kernel_rfl, ?_⟩) (by assumption) ?_
           rotate_left
           ·intro w hSw; (try dsimp only at hSw); go_simp; (try with_reducible rfl)
           (try simp only [Act.put, List.getElem_toArray, List.getElem_cons_zero, List.getElem_cons_succ, List.setIfInBounds_toArray, List.set_cons_zero, List.set_cons_succ])
           refine wpAnyH_take (i := 26) (v := ?_) rfl (by kernel_rfl) (by kernel_rfl) (by kernel_rfl) (fun _ _ _ h => h) (Or.inl ⟨by kernel_rfl, ?_⟩) (by assumption) ?_
           rotate_left
           ·intro w hSw; (try dsimp only at hSw); go_simp; (try with_reducible rfl)
           (try simp only [Act.put, List.getElem_toArray, List.getElem_cons_zero, List.getElem_cons_succ, List.setIfInBounds_toArray, List.set_cons_zero, List.set_cons_succ])
           refine wpAnyH_take (i := 27) (v := ?_) rfl (by kernel_rfl) (by kernel_rfl) (by kernel_rfl) (fun _ _ _ h => h) (Or.inl ⟨by kernel_rfl, ?_⟩) (by assumption) ?_
           rotate_left
           ·intro w hSw; (try dsimp only at hSw); go_simp; (try with_reducible rfl)
           (try simp only [Act.put, List.getElem_toArray, List.getElem_cons_zero, List.getElem_cons_succ, List.setIfInBounds_toArray, List.set_cons_zero, List.set_cons_succ])
           refine wpAnyH_take (i := 28) (v := ?_) rfl (by kernel_rfl) (by kernel_rfl) (by kernel_rfl) (fun _ _ _ h => h) (Or.inl ⟨by kernel_rfl, ?_⟩) (by assumption) ?_
           rotate_left
           ·intro w hSw; (try dsimp only at hSw); go_simp; (try with_reducible rfl)
           (try simp only [Act.put, List.getElem_toArray, List.getElem_cons_zero, List.getElem_cons_succ, List.setIfInBounds_toArray, List.set_cons_zero, List.set_cons_succ])
           refine wpAnyH_take (i := 29) (v := ?_) rfl (by kernel_rfl) (by kernel_rfl) (by kernel_rfl) (fun _ _ _ h => h) (Or.inl ⟨by kernel_rfl, ?_⟩) (by assumption) ?_
           rotate_left
           ·intro w hSw; (try dsimp only at hSw); go_simp; (try with_reducible rfl)
           (try simp only [Act.put, List.getElem_toArray, List.getElem_cons_zero, List.getElem_cons_succ, List.setIfInBounds_toArray, List.set_cons_zero, List.set_cons_succ])
           refine wpAnyH_take (i := 30) (v := ?_) rfl (by kernel_rfl) (by kernel_rfl) (by kernel_rfl) (fun _ _ _ h => h) (Or.inl ⟨by kernel_rfl, ?_⟩) (by assumption) ?_
           rotate_left
           ·intro w hSw; (try dsimp only at hSw); go_simp; (try with_reducible rfl)
           (try simp only [Act.put, List.getElem_toArray, List.getElem_cons_zero, List.getElem_cons_succ, List.setIfInBounds_toArray, List.set_cons_zero, List.set_cons_succ])
           refine wpAnyH_take (i := 31) (v := ?_) rfl (by kernel_rfl) (by kernel_rfl) (by kernel_rfl) (fun _ _ _ h => h) (Or.inl ⟨by kernel_rfl, ?_⟩) (by assumption) ?_
           rotate_left
           ·intro w hSw; (try dsimp only at hSw); go_simp; (try with_reducible rfl)
           (try simp only [Act.put, List.getElem_toArray, List.getElem_cons_zero, List.getElem_cons_succ, List.setIfInBounds_toArray, List.set_cons_zero, List.set_cons_succ])
           refine wpAnyH_take (i := 32) (v := ?_) rfl (by kernel_rfl) (by kernel_rfl) (by kernel_rfl) (fun _ _ _ h => h) (Or.inl ⟨by kernel_rfl, ?_⟩) (by assumption) ?_
           rotate_left
           ·intro w hSw; (try dsimp only at hSw); go_simp; (try with_reducible rfl)
           (try simp only [Act.put, List.getElem_toArray, List.getElem_cons_zero, List.getElem_cons_succ, List.setIfInBounds_toArray, List.set_cons_zero, List.set_cons_succ])
           refine wpAnyH_take (i := 33) (v := ?_) rfl (by kernel_rfl) (by kernel_rfl) (by kernel_rfl) (fun _ _ _ h => h) (Or.inl ⟨by kernel_rfl, ?_⟩) (by assumption) ?_
           rotate_left
           ·intro w hSw; (try dsimp only at hSw); go_simp; (try with_reducible rfl)
           (try simp only [Act.put, List.getElem_toArray, List.getElem_cons_zero, List.getElem_cons_succ, List.setIfInBounds_toArray, List.set_cons_zero, List.set_cons_succ])
           refine wpAnyH_take (i := 34) (v := ?_) rfl (by kernel_rfl) (by kernel_rfl) (by kernel_rfl) (fun _ _ _ h => h) (Or.inl ⟨by kernel_rfl, ?_⟩) (by assumption) ?_
           rotate_left
           ·intro w hSw; (try dsimp only at hSw); go_simp; (try with_reducible rfl)
           (try simp only [Act.put, List.getElem_toArray, List.getElem_cons_zero, List.getElem_cons_succ, List.setIfInBounds_toArray, List.set_cons_zero, List.set_cons_succ])
           refine wpAnyH_ready (rs := [35]) (by kernel_rfl) (by simp) ?_
           refine AllReadyH.cons rfl (fun K hK => ?_) AllReadyH.nil
           go_simp
           go_at_call 146
           refine (HMM.out _ HK6.out).mono ?_
           rintro e w7 ⟨rfl, k7⟩
           have k8 := HK6.out.trans k7
           refine hK.out _ _ ⟨k8.cell hcell, k8.cell c1, k8.cell cx, k8.cell cy, k8⟩ (fun hHeld2 => ?_)
           clear hK K
           (try simp only [Act.put, List.getElem_toArray, List.getElem_cons_zero, List.getElem_cons_succ, List.setIfInBounds_toArray, List.set_cons_zero, List.set_cons_succ])
           have HG3 := Lib.hid (HG2.out.keep k8)
           have h1 := k8.cell hcell
           have h2 := k8.cell c1
           clear k7 k8 hcell c1 cx cy hHeld1
           cases r with
           | true =>
            have HN := Lib.hid (hMD2.out.keep (done' := fun c d => (c < x ∧ d < i) ∨ (c = x ∧ d < y + 1)) fun c d e => by
             by_cases e2 : d = y ∧ c = x
             ·obtain ⟨rfl, rfl⟩ := e2
              exact .inr fun e => HQQ.out.2 (.inr rfl)
             ·exact .inl (by omega))
            refine wpAnyH_take (i := 36) (v := ?_) rfl (by kernel_rfl) (by kernel_rfl) (by kernel_rfl) (fun _ _ _ h => h) (Or.inl ⟨by kernel_rfl, ?_⟩) (by assumption) ?_
            rotate_left
            ·intro w hSw; (try dsimp only at hSw); go_simp; (try with_reducible rfl)
            (try simp only [Act.put, List.getElem_toArray, List.getElem_cons_zero, List.getElem_cons_succ, List.setIfInBounds_toArray, List.set_cons_zero, List.set_cons_succ])
            refine wpAnyH_take (i := 37) (v := ?_) rfl (by kernel_rfl) (by kernel_rfl) (by kernel_rfl) (fun _ _ _ h => h) (Or.inl ⟨by kernel_rfl, ?_⟩) (by assumption) ?_
            rotate_left
            ·intro w hSw; (try dsimp only at hSw); go_simp; (try with_reducible rfl)
            (try simp only [Act.put, List.getElem_toArray, List.getElem_cons_zero, List.getElem_cons_succ, List.setIfInBounds_toArray, List.set_cons_zero, List.set_cons_succ])
            refine wpAnyH_done (by kernel_rfl) ?_ _
            clear hHeld2 h1 h2
            go_wp2_with fail
            go_roundw
            case rel => (first | exact ⟨ag, y + 1, P2, rfl, by go_num, by omega, HG3.out, HN⟩ | ((repeat apply Exists.intro); exact ⟨⟨ag, y + 1, P2, rfl, by go_num, by omega, HG3.out, HN⟩, rfl⟩))
            case measure => simp [intOf]; omega
           | false =>
            have HNK := Lib.hid (show ¬ K x y from fun e => by have := HKE.out e; cases this)
            have HN := Lib.hid (hMD2.out.off (done' := fun c d => (c < x ∧ d < i) ∨ (c = x ∧ d < y + 1)) hxl hyl HPXY.out)
            have HG4 := Lib.hid (HG3.out.off HBASE.out HBX.out hyl HNK.out)
            have f0 := (HG3.out.1.2.2 x b HBX.out).frz y
            refine wpAnyH_take (i := 36) (v := ?_) rfl (by kernel_rfl) (by kernel_rfl) (by kernel_rfl) (fun _ _ _ h => h) (Or.inl ⟨by kernel_rfl, ?_⟩) (by assumption) ?_
            rotate_left
            ·intro w hSw; (try dsimp only at hSw); go_simp; (try with_reducible rfl)
            (try simp only [Act.put, List.getElem_toArray, List.getElem_cons_zero, List.getElem_cons_succ, List.setIfInBounds_toArray, List.set_cons_zero, List.set_cons_succ])
            refine wpAnyH_take (i := 37) (v := ?_) rfl (by kernel_rfl) (by kernel_rfl) (by kernel_rfl) (fun _ _ _ h => h) (Or.inl ⟨by kernel_rfl, ?_⟩) (by assumption) ?_
            rotate_left
            ·intro w hSw; (try dsimp only at hSw); go_simp; (try with_reducible rfl)
            (try simp only [Act.put, List.getElem_toArray, List.getElem_cons_zero, List.getElem_cons_succ, List.setIfInBounds_toArray, List.set_cons_zero, List.set_cons_succ])
            refine wpAnyH_done (by kernel_rfl) ?_ _
            clear hHeld2
            go_wp2_with fail
            go_roundw
            case rel => (first | exact ⟨true, y + 1, _, rfl, by go_num, by omega, HG4.out, HN⟩ | ((repeat apply Exists.intro); exact ⟨⟨true, y + 1, _, rfl, by go_num, by omega, HG4.out, HN⟩, rfl⟩))
            case measure => simp [intOf]; omega
        ·have hyI : ¬ (y : Int) < (i : Int) := by omega
         obtain rfl : y = i := by omega
         have HN := Lib.hid (hMD2.out.keep (done' := fun c d => c < x + 1 ∧ d < y) fun c d e => .inl (by omega))
         go_wp2_with fail
         go_roundw
         case rel => (first | exact ⟨ag, x + 1, P2, rfl, by go_num, by omega, HG2.out, HN⟩ | ((repeat apply Exists.intro); exact ⟨⟨ag, x + 1, P2, rfl, by go_num, by omega, HG2.out, HN⟩, rfl⟩))
         case measure => simp [intOf]; omega
      ·have hxI : ¬ (x : Int) < (i : Int) := by omega
       obtain rfl : x = i := by omega
       have HE := Lib.hid (hMD.out.end fun c d hc hd => ⟨hc, hd⟩)
       go_wp2_with fail
       go_roundg (2 * Tab.cntM x P1 + (if ag = true then 1 else 0) + 1)
       case rel => (first | exact ⟨ag, P1, rfl, HG1.out, Lib.hid (Nat.lt_succ_self _), Lib.hid fun e => HE.out.2 e⟩ | ((repeat apply Exists.intro); exact ⟨⟨ag, P1, rfl, HG1.out, Lib.hid (Nat.lt_succ_self _), Lib.hid fun e => HE.out.2 e⟩, rfl⟩))
       case measure => have := HE.out.1; have := HMS.out; simp at this; omega
end Go.Proofs.YthooiofaicdhgaaGreatDoor
namespace Go.Proofs.YthooiofaicdhgaaGreatDoor
open Go.ChangeShapes Go.WideShapes Go.ChangeAt Go.RowKit
theorem rtyped7_c (t : List Tab.C) (a : Option Addr) (cp : Nat) (s : ByteArray) (w : World) (h : TabAt w (.slice a t.length cp) t) :
  Calls Tryz.prog 96 #[.slice a t.length cp, .string s] w fun e w' => e = .returned (.bool (Tab.isT t s)) ∧ Kept w w' := by
 have HB := Lib.hid (baseR_c s w)
 have HC := rfind_c t (.slice a t.length cp) s w h
 unfold FindPost at HC
 have HC := Lib.hid HC
 have HE := Lib.hid (show Tab.isT t s = (Wrd.base s || (decide (s = ⟨#[63]⟩) || (Tab.ix Tab.C.name t s).isSome)) from isT_or t s)
 generalize Tab.isT t s = y at HE ⊢
 generalize (Tab.ix Tab.C.name t s).isSome = z at HC HE
 generalize Tab.num (Tab.ix Tab.C.name t s) = nn at HC
 clear h
 cases z with
 | true =>
  obtain rfl : y = true := by rw [HE.out]; simp
  go_enter Tryz.func96, Tryz.ntmps96
  go_wp2_with fail
  refine HC.out.mono ?_
  rintro e w1 ⟨rfl, rfl⟩
  go_wp2_with fail
  go_ret
  exact ⟨rfl, Kept.refl _⟩
 | false =>
  by_cases hd : s = ⟨#[63]⟩
  ·have hq : (s.toList == ([63] : List UInt8)) = true := by have := beq_yes hd; rwa [show (⟨#[63]⟩ : ByteArray).toList = [63] by kernel_rfl] at this
   obtain rfl : y = true := by rw [HE.out, decide_eq_true hd]; simp
   clear hd
   go_enter Tryz.func96, Tryz.ntmps96
   go_wp2_with fail
   refine HC.out.mono ?_
   rintro e w1 ⟨rfl, rfl⟩
   go_wp2_with fail
   go_ret
   exact ⟨rfl, Kept.refl _⟩
  ·have hq : (s.toList == ([63] : List UInt8)) = false := by have := beq_no hd; rwa [show (⟨#[63]⟩ : ByteArray).toList = [63] by kernel_rfl] at this
   have HE2 := Lib.hid (show y = Wrd.base s by rw [HE.out, decide_eq_false hd]; simp)
   generalize Wrd.base s = bb at HB HE2
   obtain rfl : y = bb := HE2.out
   clear hd HE HE2
   go_enter Tryz.func96, Tryz.ntmps96
   go_wp2_with fail
   refine HC.out.mono ?_
   rintro e w1 ⟨rfl, rfl⟩
   go_wp2_with fail
   refine HB.out.mono ?_
   rintro e w2 ⟨rfl, k2⟩
   go_wp2_with fail
   go_ret
   exact ⟨rfl, k2⟩
theorem hasB_map {α β : Type} (f : α → β) (L U : List (Tab.Mb α)) : Tab.hasB (L.map (Tab.Mb.map f)) (U.map (Tab.Mb.map f)) = Tab.hasB L U := by
 unfold Tab.hasB
 rw [List.all_map]
 refine Tab.all_mem fun m _ => ?_
 show (L.map (Tab.Mb.map f)).any _ = _
 rw [List.any_map]
 rfl
set_option maxHeartbeats 4000000 in
theorem rhasH7_c (t : List Tab.C) (a : Option Addr) (cp : Nat) (s u : ByteArray) (w : World) (h : TabAt w (.slice a t.length cp) t) (hS : Small t) :
  Calls Tryz.prog 31 #[.slice a t.length cp, .string s, .string u] w fun e w' => e = .returned (.bool (Tab.has t s u)) ∧ Kept w w' := by
 have HC := rcheck_c t a cp w h hS
 have HO := Lib.hid (Tab.rCheck_is t)
 have HZ := Lib.hid (@Tab.rCheck_zero t)
 have HFs := rfind_c t (.slice a t.length cp) s w h
 have HFu := rfind_c t (.slice a t.length cp) u w h
 unfold FindPost at HFs HFu
 have HFs := Lib.hid HFs
 have HFu := Lib.hid HFu
 have HH := Lib.hid (fun (ho : Tab.ok t = true) (hs : (Tab.ix Tab.C.name t s).isSome = true) (W : World) (k : Kept w W) => rhas7_c t a cp s u W (tab_kept h k) hS (Tab.ok_valid ho) hs)
 have HE := Lib.hid (show Tab.has t s u = ((Tab.ix Tab.C.name t s).isSome && (Tab.ix Tab.C.name t u).isSome && Tab.ok t && Tab.hasB (Tab.mbs t s) (Tab.mbs t u)) from by
  unfold Tab.has Tab.shp
  rw [hasB_map]
  rfl)
 generalize Tab.has t s u = ans at HE ⊢
 generalize Tab.hasB (Tab.mbs t s) (Tab.mbs t u) = hb at HH HE
 generalize Tab.num (Tab.ix Tab.C.name t s) = n1 at HFs
 generalize Tab.num (Tab.ix Tab.C.name t u) = n2 at HFu
 generalize (Tab.ix Tab.C.name t s).isSome = i1 at HFs HE HH
 generalize (Tab.ix Tab.C.name t u).isSome = i2 at HFu HE
 clear h hS
 cases i1 with
 | false =>
  obtain rfl : ans = false := by rw [HE.out]; rfl
  clear HC HO HZ HH HE
  go_enter Tryz.func31, Tryz.ntmps31
  go_wp2_with fail
  refine HFs.out.mono ?_
  rintro e w1 ⟨rfl, rfl⟩
  go_wp2_with fail
  refine HFu.out.mono ?_
  rintro e w1 ⟨rfl, rfl⟩
  go_wp2_with fail
  go_ret
  exact ⟨rfl, Kept.refl _⟩
 | true =>
  cases i2 with
  | false =>
   obtain rfl : ans = false := by rw [HE.out]; rfl
   clear HC HO HZ HH HE
   go_enter Tryz.func31, Tryz.ntmps31
   go_wp2_with fail
   refine HFs.out.mono ?_
   rintro e w1 ⟨rfl, rfl⟩
   go_wp2_with fail
   refine HFu.out.mono ?_
   rintro e w1 ⟨rfl, rfl⟩
   go_wp2_with fail
   go_ret
   exact ⟨rfl, Kept.refl _⟩
  | true =>
   cases ho : Tab.ok t with
   | false =>
    rw [ho] at HO
    obtain rfl : ans = false := by rw [HE.out, ho]; rfl
    generalize Tab.rCheck t = ck at HC HO HZ
    obtain ⟨fe, fa⟩ := ck
    dsimp only at HC
    have hz : ¬ fe = 0 := fun e => by
     have h1 := HZ.out e
     have h2 := HO.out
     rw [h1] at h2
     cases h2
    have hbq : (fe == 0) = false := by simpa using hz
    have HC := Lib.hid HC
    clear hz ho HH HE HO HZ
    go_enter Tryz.func31, Tryz.ntmps31
    go_wp2_with fail
    refine HFs.out.mono ?_
    rintro e w1 ⟨rfl, rfl⟩
    go_wp2_with fail
    refine HFu.out.mono ?_
    rintro e w1 ⟨rfl, rfl⟩
    go_wp2_with fail
    refine HC.out.mono ?_
    rintro e w1 ⟨rfl, k1⟩
    go_wp2_with fail
    go_ret
    exact ⟨rfl, k1⟩
   | true =>
    rw [ho] at HO
    have hz : Tab.rCheck t = (0, 0) := of_decide_eq_true HO.out
    rw [hz] at HC
    dsimp only at HC
    have HC := Lib.hid HC
    obtain rfl : ans = hb := by rw [HE.out, ho]; rfl
    have HH2 := Lib.hid (HH.out ho rfl)
    clear hz ho HH HE HO HZ
    go_enter Tryz.func31, Tryz.ntmps31
    go_wp2_with fail
    refine HFs.out.mono ?_
    rintro e w1 ⟨rfl, rfl⟩
    go_wp2_with fail
    refine HFu.out.mono ?_
    rintro e w1 ⟨rfl, rfl⟩
    go_wp2_with fail
    refine HC.out.mono ?_
    rintro e w1 ⟨rfl, k1⟩
    have HK1 := Lib.hid k1
    clear k1
    go_wp2_with fail
    refine (HH2.out _ HK1.out).mono ?_
    rintro e w2 ⟨rfl, k2⟩
    go_wp2_with fail
    go_ret
    exact ⟨rfl, HK1.out.trans k2⟩
theorem goes_ats {t : List Tab.C} {s u : ByteArray} (h : Tab.ats t s u = false) : Tab.goes t s u = false := by
 have hd : Tab.isT t ⟨#[63]⟩ = true := by unfold Tab.isT; rw [decide_eq_true (by decide +kernel)]; rfl
 unfold Tab.goes
 by_cases h1 : s = ⟨#[63]⟩
 ·rw [if_pos h1]
  subst h1
  unfold Tab.ats at h ⊢
  rw [hd] at h
  revert h
  cases Tab.isT t u <;> cases Tab.ok t <;> simp
 ·rw [if_neg h1]
  by_cases h2 : u = ⟨#[63]⟩
  ·rw [if_pos h2]
   subst h2
   unfold Tab.ats at h ⊢
   rw [hd] at h
   revert h
   cases Tab.isT t s <;> cases Tab.ok t <;> simp
  ·rw [if_neg h2]
   have e1 : Tab.sub t s u = false := by unfold Tab.sub; rw [h]; rfl
   have e2 : Tab.has t s u = false := by
    unfold Tab.has
    unfold Tab.ats Tab.isT at h
    revert h
    cases Tab.isC t s <;> cases Tab.isC t u <;> cases Tab.ok t <;> simp
   rw [e1, e2]
   rfl
set_option maxHeartbeats 8000000 in
theorem rgoes7_c (t : List Tab.C) (a : Option Addr) (cp : Nat) (s u : ByteArray) (w : World) (h : TabAt w (.slice a t.length cp) t) (hS : Small t) :
  Calls Tryz.prog 33 #[.slice a t.length cp, .string s, .string u] w fun e w' => e = .returned (.bool (Tab.goes t s u)) ∧ Kept w w' := by
 have HC := rcheck_c t a cp w h hS
 have HO := Lib.hid (Tab.rCheck_is t)
 have HZ := Lib.hid (@Tab.rCheck_zero t)
 have HTs := Lib.hid (fun (W : World) (k : Kept w W) => rtyped7_c t a cp s W (tab_kept h k))
 have HTu := Lib.hid (fun (W : World) (k : Kept w W) => rtyped7_c t a cp u W (tab_kept h k))
 have HG := Lib.hid (fun (ho : Tab.ok t = true) (W : World) (k : Kept w W) => rgr7_c t a cp W (tab_kept h k) hS (Tab.ok_valid ho))
 have HSB := Lib.hid (fun (ho : Tab.ok t = true) (W : World) (k : Kept w W) => rsub7_c t a cp s u W (tab_kept h k) hS (Tab.ok_valid ho))
 have HFs := Lib.hid (fun (W : World) (k : Kept w W) => show Calls _ _ _ W _ from by have := rfind_c t (.slice a t.length cp) s W (tab_kept h k); unfold FindPost at this; exact this)
 have HFu := Lib.hid (fun (W : World) (k : Kept w W) => show Calls _ _ _ W _ from by have := rfind_c t (.slice a t.length cp) u W (tab_kept h k); unfold FindPost at this; exact this)
 have HH := Lib.hid (fun (ho : Tab.ok t = true) (P : Nat → Nat → Bool) (v : Value) (W : World) (k : Kept w W) (hm : MatV t.length P v W) => rgo7_c t a cp P v s u W (tab_kept h k) hS (Tab.ok_valid ho) hm)
 have HN1 := Lib.hid (fun (hq : Tab.ats t s u = false) => (show Tab.goes t s u = false from goes_ats hq))
 have HAT := Lib.hid (show Tab.ats t s u = (Tab.isT t s && Tab.isT t u && Tab.ok t) from rfl)
 have HPR := Lib.hid (fun (ho : Tab.ok t = true) (hs : Tab.isT t s = true) (hu : Tab.isT t u = true) (P : Nat → Nat → Bool) (hP : ∀ i k, i < t.length → k < t.length → (P i k = true ↔ Tab.K7 t i k)) => (show Tab.goes t s u = Tab.goG t P s u from Tab.goG_goes ho (fun i k hi hk => by rw [Bool.eq_iff_iff]; exact hP i k hi hk) hs hu))
 have HP0 := Lib.hid (fun (ho : Tab.ok t = true) (hs : Tab.isT t s = true) (hu : Tab.isT t u = true) => (show Tab.goes t s u = (decide (s = ⟨#[63]⟩) || decide (u = ⟨#[63]⟩) || decide (u ∈ Tab.up t s) || (match Tab.ix Tab.C.name t s, Tab.ix Tab.C.name t u with
  | some i, some k => Tab.inL (Tab.gfp (Tab.shps t)) i k
  | _, _ => false)) from Tab.goG_goes ho (fun i k hi hk => rfl) hs hu))
 generalize Tab.goes t s u = ans at HN1 HPR HP0 ⊢
 generalize Tab.ats t s u = at1 at HAT HN1
 cases ho : Tab.ok t with
 | false =>
  obtain rfl : ans = false := HN1.out (by rw [HAT.out, ho]; simp)
  rw [ho] at HO
  generalize Tab.rCheck t = ck at HC HO HZ
  obtain ⟨fe, fa⟩ := ck
  dsimp only at HC
  have hz : ¬ fe = 0 := fun e => by
   have h1 := HZ.out e
   have h2 := HO.out
   rw [h1] at h2
   cases h2
  have hb : (fe == 0) = false := by simpa using hz
  have HC := Lib.hid HC
  clear h hS hz ho HPR HP0 HN1 HAT HH HG HSB
  go_enter Tryz.func33, Tryz.ntmps33
  go_wp2_with fail
  refine HC.out.mono ?_
  rintro e w1 ⟨rfl, k1⟩
  go_wp2_with fail
  go_ret
  exact ⟨rfl, k1⟩
 | true =>
  rw [ho] at HO
  have hz : Tab.rCheck t = (0, 0) := of_decide_eq_true HO.out
  rw [hz] at HC
  dsimp only at HC
  have HC := Lib.hid HC
  have HG2 := Lib.hid (HG.out ho)
  have HPR2 := Lib.hid (HPR.out ho)
  have HP02 := Lib.hid (HP0.out ho)
  have HH2 := Lib.hid (HH.out ho)
  have HSB2 := Lib.hid (HSB.out ho)
  clear h hS hz HO HZ HG HPR HP0 HH HSB
  cases hts : Tab.isT t s with
  | false =>
   obtain rfl : ans = false := HN1.out (by rw [HAT.out, hts]; simp)
   rw [hts] at HTs
   clear hts ho HN1 HAT HPR2 HP02 HSB2
   go_enter Tryz.func33, Tryz.ntmps33
   go_wp2_with fail
   refine HC.out.mono ?_
   rintro e w1 ⟨rfl, k1⟩
   have HK1 := Lib.hid k1
   clear k1
   go_wp2_with fail
   refine (HTs.out _ HK1.out).mono ?_
   rintro e w2 ⟨rfl, k2⟩
   go_wp2_with fail
   go_ret
   exact ⟨rfl, HK1.out.trans k2⟩
  | true =>
   rw [hts] at HTs
   cases htu : Tab.isT t u with
   | false =>
    obtain rfl : ans = false := HN1.out (by rw [HAT.out, htu]; simp)
    rw [htu] at HTu
    clear hts htu ho HN1 HAT HPR2 HP02 HSB2
    go_enter Tryz.func33, Tryz.ntmps33
    go_wp2_with fail
    refine HC.out.mono ?_
    rintro e w1 ⟨rfl, k1⟩
    have HK1 := Lib.hid k1
    clear k1
    go_wp2_with fail
    refine (HTs.out _ HK1.out).mono ?_
    rintro e w2 ⟨rfl, k2⟩
    have HK2 := Lib.hid (HK1.out.trans k2)
    clear k2
    go_wp2_with fail
    refine (HTu.out _ HK2.out).mono ?_
    rintro e w3 ⟨rfl, k3⟩
    go_wp2_with fail
    go_ret
    exact ⟨rfl, HK2.out.trans k3⟩
   | true =>
    rw [htu] at HTu
    have HAN := Lib.hid (HPR2.out hts htu)
    have HA0 := Lib.hid (HP02.out hts htu)
    clear hts htu ho HN1 HAT HPR2 HP02
    by_cases hsd : s = ⟨#[63]⟩
    ·have hq : (s.toList == ([63] : List UInt8)) = true := by have := beq_yes hsd; rwa [show (⟨#[63]⟩ : ByteArray).toList = [63] by kernel_rfl] at this
     obtain rfl : ans = true := by rw [HA0.out, decide_eq_true hsd]; simp
     clear hsd HA0 HAN
     go_enter Tryz.func33, Tryz.ntmps33
     go_wp2_with fail
     refine HC.out.mono ?_
     rintro e w1 ⟨rfl, k1⟩
     have HK1 := Lib.hid k1
     clear k1
     go_wp2_with fail
     refine (HTs.out _ HK1.out).mono ?_
     rintro e w2 ⟨rfl, k2⟩
     have HK2 := Lib.hid (HK1.out.trans k2)
     clear k2
     go_wp2_with fail
     refine (HTu.out _ HK2.out).mono ?_
     rintro e w3 ⟨rfl, k3⟩
     have HK3 := Lib.hid (HK2.out.trans k3)
     clear k3
     go_wp2_with fail
     go_ret
     exact ⟨rfl, HK3.out⟩
    ·have hq : (s.toList == ([63] : List UInt8)) = false := by have := beq_no hsd; rwa [show (⟨#[63]⟩ : ByteArray).toList = [63] by kernel_rfl] at this
     by_cases hud : u = ⟨#[63]⟩
     ·have hq2 : (u.toList == ([63] : List UInt8)) = true := by have := beq_yes hud; rwa [show (⟨#[63]⟩ : ByteArray).toList = [63] by kernel_rfl] at this
      obtain rfl : ans = true := by rw [HA0.out, decide_eq_true hud]; simp
      clear hsd hud HA0 HAN
      go_enter Tryz.func33, Tryz.ntmps33
      go_wp2_with fail
      refine HC.out.mono ?_
      rintro e w1 ⟨rfl, k1⟩
      have HK1 := Lib.hid k1
      clear k1
      go_wp2_with fail
      refine (HTs.out _ HK1.out).mono ?_
      rintro e w2 ⟨rfl, k2⟩
      have HK2 := Lib.hid (HK1.out.trans k2)
      clear k2
      go_wp2_with fail
      refine (HTu.out _ HK2.out).mono ?_
      rintro e w3 ⟨rfl, k3⟩
      have HK3 := Lib.hid (HK2.out.trans k3)
      clear k3
      go_wp2_with fail
      go_ret
      exact ⟨rfl, HK3.out⟩
     ·have hq2 : (u.toList == ([63] : List UInt8)) = false := by have := beq_no hud; rwa [show (⟨#[63]⟩ : ByteArray).toList = [63] by kernel_rfl] at this
      have HA1 := Lib.hid (show ans = (decide (u ∈ Tab.up t s) || (match Tab.ix Tab.C.name t s, Tab.ix Tab.C.name t u with
       | some i, some k => Tab.inL (Tab.gfp (Tab.shps t)) i k
       | _, _ => false)) by rw [HA0.out, decide_eq_false hsd, decide_eq_false hud]; simp)
      clear hsd hud HA0
      obtain ⟨ub, hub⟩ : ∃ z, decide (u ∈ Tab.up t s) = z := ⟨_, rfl⟩
      rw [hub] at HA1 HSB2
      clear hub
      go_enter Tryz.func33, Tryz.ntmps33
      go_wp2_with fail
      refine HC.out.mono ?_
      rintro e w1 ⟨rfl, k1⟩
      have HK1 := Lib.hid k1
      clear k1
      go_wp2_with fail
      refine (HTs.out _ HK1.out).mono ?_
      rintro e w2 ⟨rfl, k2⟩
      have HK2 := Lib.hid (HK1.out.trans k2)
      clear k2
      go_wp2_with fail
      refine (HTu.out _ HK2.out).mono ?_
      rintro e w3 ⟨rfl, k3⟩
      have HK3 := Lib.hid (HK2.out.trans k3)
      clear k3
      go_wp2_with fail
      refine (HSB2.out _ HK3.out).mono ?_
      rintro e w4 ⟨rfl, k4⟩
      have HK4 := Lib.hid (HK3.out.trans k4)
      clear k4
      cases ub with
      | true =>
       obtain rfl : ans = true := by rw [HA1.out]; rfl
       go_wp2_with fail
       go_ret
       exact ⟨rfl, HK4.out⟩
      | false =>
       have HA2 := Lib.hid (show ans = (match Tab.ix Tab.C.name t s, Tab.ix Tab.C.name t u with
        | some i, some k => Tab.inL (Tab.gfp (Tab.shps t)) i k
        | _, _ => false) by rw [HA1.out]; simp)
       clear HA1
       cases hi : Tab.ix Tab.C.name t s with
       | none =>
        obtain rfl : ans = false := by rw [HA2.out, hi]
        rw [hi] at HFs
        simp only [Option.isSome_none] at HFs
        generalize Tab.num none = z1 at HFs
        generalize Tab.num (Tab.ix Tab.C.name t u) = z2 at HFu
        generalize (Tab.ix Tab.C.name t u).isSome = y2 at HFu
        clear hi HA2 HAN
        go_wp2_with fail
        refine (HFs.out _ HK4.out).mono ?_
        rintro e w5 ⟨rfl, rfl⟩
        go_wp2_with fail
        refine (HFu.out _ HK4.out).mono ?_
        rintro e w6 ⟨rfl, rfl⟩
        go_wp2_with fail
        go_ret
        exact ⟨rfl, HK4.out⟩
       | some i =>
        rw [hi] at HFs
        simp only [Option.isSome_some] at HFs
        generalize Tab.num (some i) = z1 at HFs
        cases hk : Tab.ix Tab.C.name t u with
        | none =>
         obtain rfl : ans = false := by rw [HA2.out, hi, hk]
         rw [hk] at HFu
         simp only [Option.isSome_none] at HFu
         generalize Tab.num none = z2 at HFu
         clear hi hk HA2 HAN
         go_wp2_with fail
         refine (HFs.out _ HK4.out).mono ?_
         rintro e w5 ⟨rfl, rfl⟩
         go_wp2_with fail
         refine (HFu.out _ HK4.out).mono ?_
         rintro e w6 ⟨rfl, rfl⟩
         go_wp2_with fail
         go_ret
         exact ⟨rfl, HK4.out⟩
        | some k =>
         rw [hk] at HFu
         simp only [Option.isSome_some] at HFu
         generalize Tab.num (some k) = z2 at HFu
         clear hi hk HA2
         go_wp2_with fail
         refine (HFs.out _ HK4.out).mono ?_
         rintro e w5 ⟨rfl, rfl⟩
         go_wp2_with fail
         refine (HFu.out _ HK4.out).mono ?_
         rintro e w6 ⟨rfl, rfl⟩
         go_wp2_with fail
         refine (HG2.out _ HK4.out).mono ?_
         rintro e w7 ⟨v, P, rfl, hm, hP, k7⟩
         have HK7 := Lib.hid (HK4.out.trans k7)
         have HHH := Lib.hid (HH2.out P v w7 HK7.out hm)
         have HA := Lib.hid (HAN.out P hP)
         obtain ⟨va, vc, rfl, _⟩ := hm
         generalize Tab.goG t P s u = r at HHH HA
         clear hP k7
         go_wp2_with fail
         refine HHH.out.mono ?_
         rintro e w8 ⟨rfl, k8⟩
         go_wp2_with fail
         go_ret
         exact ⟨by rw [HA.out]; first | done | rfl, HK7.out.trans k8⟩
end Go.Proofs.YthooiofaicdhgaaGreatDoor
