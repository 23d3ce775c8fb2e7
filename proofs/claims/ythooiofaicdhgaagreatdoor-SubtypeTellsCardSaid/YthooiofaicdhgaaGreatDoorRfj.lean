/- The document's own answers about types (chaperonref06): may, Sub, Join, Below, Leaf. -/
import Derived.Test.YthooiofaicdhgaaGreatDoorRck
import Derived.Test.YthooiofaicdhgaaGreatDoorRfs
set_option linter.unusedSimpArgs false
set_option linter.unusedVariables false
set_option maxRecDepth 100000
namespace Go.Proofs.YthooiofaicdhgaaGreatDoor
open Go.ChangeShapes Go.WideShapes Go.ChangeAt Go.RowKit

namespace Tab
theorem lineNo {t : List C} {s : ByteArray} (h : isC t s = false) : line t s = [] := by
  unfold line
  refine lineF_none ?_
  unfold isC at h
  unfold at'
  cases e : ix C.name t s with
  | none => rfl
  | some _ => rw [e] at h; cases h
theorem supersNo {t : List C} {s : ByteArray} (h : isC t s = false) : supers t s = [] := by unfold supers; rw [lineNo h]; rfl
theorem up_sup {t : List C} {s : ByteArray} (h : isC t s = true) : up t s = supers t s := by unfold up; rw [h]; rfl
theorem up_non' {t : List C} {s : ByteArray} (h : isC t s = false) : up t s = [s] := by unfold up; rw [h]; rfl
theorem up_inS {t : List C} {s u : ByteArray} (h : ¬ s = u) : decide (u ∈ up t s) = inL (supers t s) u := by
  rw [Bool.eq_iff_iff, decide_eq_true_iff]
  unfold inL
  rw [List.any_eq_true]
  cases hc : isC t s with
  | true => rw [up_sup hc]; exact ⟨fun k => ⟨u, k, decide_eq_true rfl⟩, fun ⟨x, hx, e⟩ => by obtain rfl := of_decide_eq_true e; exact hx⟩
  | false =>
    rw [up_non' hc, supersNo hc]
    exact ⟨fun k => absurd (List.mem_singleton.1 k).symm h, fun ⟨x, hx, _⟩ => by cases hx⟩
theorem up_isC' {t : List C} (hv : Valid t) {s u : ByteArray} (hs : isC t s = true) (h : u ∈ up t s) : isC t u = true := by
  obtain ⟨i, hi, rfl⟩ := isC_at hs
  rw [hv.up_cls hi] at h
  obtain ⟨k, hk, rfl⟩ := List.mem_map.1 h
  exact hv.isC ((lineF_nodup t _ _ _).2 k hk).2
theorem meet_self {t : List C} (hv : Valid t) (s : ByteArray) : meet t s s = some s := by
  obtain ⟨r, e⟩ := hv.up_head s
  unfold meet
  rw [e, List.find?_cons, decide_eq_true (List.mem_cons_self ..)]
theorem find_eqP {α : Type} {p q : α → Bool} : ∀ {l : List α}, (∀ x ∈ l, p x = q x) → l.find? p = l.find? q
  | [], _ => rfl
  | x :: l, h => by
    rw [List.find?_cons, List.find?_cons, h x (List.mem_cons_self ..), find_eqP fun y hy => h y (List.mem_cons_of_mem _ hy)]
theorem meet_sup {t : List C} (hv : Valid t) {s u : ByteArray} (h : ¬ s = u) : meet t s u = (supers t s).find? fun x => inL (supers t u) x := by
  unfold meet
  cases hs : isC t s with
  | false =>
    rw [supersNo hs, up_non' hs, List.find?_nil, List.find?_cons, List.find?_nil]
    have : decide (s ∈ up t u) = false := decide_eq_false fun k => by
      cases hu : isC t u with
      | true => rw [up_isC' hv hu k] at hs; cases hs
      | false => rw [up_non' hu] at k; exact h (List.mem_singleton.1 k)
    rw [this]
  | true =>
    rw [up_sup hs]
    refine find_eqP fun x hx => ?_
    have hx' : x ∈ up t s := by rw [up_sup hs]; exact hx
    have hxc := up_isC' hv hs hx'
    by_cases e : u = x
    · subst e
      have h1 : u ∈ up t u := hv.up_self u
      rw [decide_eq_true h1]
      rw [up_sup hxc] at h1
      unfold inL
      exact (List.any_eq_true.2 ⟨u, h1, decide_eq_true rfl⟩).symm
    · exact up_inS e
theorem ok_valid' {t : List C} (h : ok t = true) : Valid t := ok_valid h
theorem join_no {t : List C} {s u : ByteArray} (h : ats t s u = false) : join t s u = none := by unfold join; rw [h]; rfl
theorem join_yes {t : List C} {s u : ByteArray} (h : ats t s u = true) : join t s u = meet t s u := by unfold join; rw [h]; rfl
theorem ats_eq (t : List C) (s u : ByteArray) : ats t s u = (isT t s && isT t u && ok t) := rfl
end Tab

set_option maxHeartbeats 2000000 in
theorem rmay_c (t : List Tab.C) (a : Option Addr) (cp : Nat) (w : World) (h : TabAt w (.slice a t.length cp) t) (hS : Small t) :
    Calls Tryz.prog 74 #[.slice a t.length cp] w fun e w' => e = .returned (.bool (Tab.ok t)) ∧ Kept w w' := by
  have HC := rcheck_c t a cp w h hS
  have HO := Lib.hid (Tab.rCheck_is t)
  have HZ := Lib.hid (@Tab.rCheck_zero t)
  generalize Tab.ok t = y at HO ⊢
  generalize Tab.rCheck t = ck at HC HO HZ
  obtain ⟨fe, fa⟩ := ck
  dsimp only at HC
  have HC := Lib.hid HC
  clear h hS
  by_cases hz : fe = 0
  · subst hz
    obtain rfl : fa = 0 := by have := HZ.out rfl; injection this
    obtain rfl : y = true := by rw [← HO.out]; rfl
    go_enter Tryz.func74, Tryz.ntmps74
    go_wp2_with fail
    refine HC.out.mono ?_
    rintro e w1 ⟨rfl, k1⟩
    go_wp2_with fail
    go_ret
    exact ⟨rfl, k1⟩
  · have hb : (fe == 0) = false := by simpa using hz
    obtain rfl : y = false := by rw [← HO.out]; simp [hz]
    clear hz
    go_enter Tryz.func74, Tryz.ntmps74
    go_wp2_with fail
    refine HC.out.mono ?_
    rintro e w1 ⟨rfl, k1⟩
    go_wp2_with fail
    go_ret
    exact ⟨rfl, k1⟩

set_option maxHeartbeats 4000000 in
theorem rsub6_c (t : List Tab.C) (a : Option Addr) (cp : Nat) (s u : ByteArray) (w : World) (h : TabAt w (.slice a t.length cp) t) (hS : Small t) :
    Calls Tryz.prog 22 #[.slice a t.length cp, .string s, .string u] w fun e w' => e = .returned (.bool (Tab.sub t s u)) ∧ Kept w w' := by
  have HM := Lib.hid (rmay_c t a cp w h hS)
  have HT := Lib.hid (fun (x : ByteArray) (W : World) (k : Kept w W) => rtyped6_c t (.slice a t.length cp) x W (tab_kept h k))
  have HS := Lib.hid (fun (W : World) (k : Kept w W) => rsupers_c t a cp s W (tab_kept h k) hS.len)
  have HE := Lib.hid (show Tab.sub t s u = (Tab.isT t s && Tab.isT t u && Tab.ok t && decide (u ∈ Tab.up t s)) from rfl)
  have HO := Lib.hid (fun (e : Tab.ok t = true) => Tab.ok_valid e)
  generalize Tab.sub t s u = ans at HE ⊢
  have HTs := Lib.hid (HT.out s)
  have HTu := Lib.hid (HT.out u)
  clear h hS HT
  generalize Tab.isT t s = ts at HTs HE
  generalize Tab.isT t u = tu at HTu HE
  cases ho : Tab.ok t with
  | false =>
    rw [ho] at HM HE
    obtain rfl : ans = false := by rw [HE.out]; simp
    clear ho
    go_enter Tryz.func22, Tryz.ntmps22
    go_wp2_with fail
    refine HM.out.mono ?_
    rintro e w1 ⟨rfl, k1⟩
    go_wp2_with fail
    go_ret
    exact ⟨rfl, k1⟩
  | true =>
    rw [ho] at HM HE
    have HV := Lib.hid (HO.out ho)
    clear ho HO
    cases ts with
    | false =>
      obtain rfl : ans = false := by rw [HE.out]; simp
      go_enter Tryz.func22, Tryz.ntmps22
      go_wp2_with fail
      refine HM.out.mono ?_
      rintro e w1 ⟨rfl, k1⟩
      have HK1 := Lib.hid k1
      clear k1
      go_wp2_with fail
      refine (HTs.out _ HK1.out).mono ?_
      rintro e w2 ⟨rfl, k2⟩
      go_wp2_with fail
      go_ret
      exact ⟨rfl, HK1.out.trans k2⟩
    | true =>
      cases tu with
      | false =>
        obtain rfl : ans = false := by rw [HE.out]; simp
        go_enter Tryz.func22, Tryz.ntmps22
        go_wp2_with fail
        refine HM.out.mono ?_
        rintro e w1 ⟨rfl, k1⟩
        have HK1 := Lib.hid k1
        clear k1
        go_wp2_with fail
        refine (HTs.out _ HK1.out).mono ?_
        rintro e w2 ⟨rfl, k2⟩
        have HK2 := Lib.hid (HK1.out.trans k2)
        clear k2
        go_wp2_with fail
        refine (HTu.out _ HK2.out).mono ?_
        rintro e w3 ⟨rfl, k3⟩
        go_wp2_with fail
        go_ret
        exact ⟨rfl, HK2.out.trans k3⟩
      | true =>
        by_cases hsu : s = u
        · obtain rfl : ans = true := by rw [HE.out, hsu, decide_eq_true (HV.out.up_self u)]; rfl
          have hb := beq_yes hsu
          clear hsu
          go_enter Tryz.func22, Tryz.ntmps22
          go_wp2_with fail
          refine HM.out.mono ?_
          rintro e w1 ⟨rfl, k1⟩
          have HK1 := Lib.hid k1
          clear k1
          go_wp2_with fail
          refine (HTs.out _ HK1.out).mono ?_
          rintro e w2 ⟨rfl, k2⟩
          have HK2 := Lib.hid (HK1.out.trans k2)
          clear k2
          go_wp2_with fail
          refine (HTu.out _ HK2.out).mono ?_
          rintro e w3 ⟨rfl, k3⟩
          have HK3 := Lib.hid (HK2.out.trans k3)
          clear k3
          go_wp2_with fail
          go_ret
          exact ⟨rfl, HK3.out⟩
        · have hb := beq_no hsu
          have HA := Lib.hid (show ans = inL (Tab.supers t s) u by rw [HE.out, Tab.up_inS hsu]; rfl)
          clear hsu
          go_enter Tryz.func22, Tryz.ntmps22
          go_wp2_with fail
          refine HM.out.mono ?_
          rintro e w1 ⟨rfl, k1⟩
          have HK1 := Lib.hid k1
          clear k1
          go_wp2_with fail
          refine (HTs.out _ HK1.out).mono ?_
          rintro e w2 ⟨rfl, k2⟩
          have HK2 := Lib.hid (HK1.out.trans k2)
          clear k2
          go_wp2_with fail
          refine (HTu.out _ HK2.out).mono ?_
          rintro e w3 ⟨rfl, k3⟩
          have HK3 := Lib.hid (HK2.out.trans k3)
          clear k3
          go_wp2_with fail
          refine (HS.out _ HK3.out).mono ?_
          rintro e w4 ⟨v4, rfl, hr4, k4⟩
          have HK4 := Lib.hid (HK3.out.trans k4)
          have HIN := Lib.hid (rin6_c _ _ u w4 (owns_txt hr4))
          obtain ⟨va4, vc4, rfl⟩ := owns_slice_n hr4
          clear hr4 k4
          go_wp2_with fail
          refine HIN.out.mono ?_
          rintro e w5 ⟨rfl, rfl⟩
          go_wp2_with fail
          go_ret
          exact ⟨by rw [HA.out]; first | rfl | simp, HK4.out⟩

def JoI (t : List Tab.C) (s u : ByteArray) (w1 : World) (q : Value) (W : World) : Prop :=
  ∃ j : Nat, j ≤ (Tab.supers t s).length ∧ q = .int .i64 j ∧ (∀ x ∈ (Tab.supers t s).take j, inL (Tab.supers t u) x = false) ∧ Kept w1 W

theorem find_here {α : Type} {p : α → Bool} {l : List α} {j : Nat} {x : α} (hx : l[j]? = some x) (h : ∀ y ∈ l.take j, p y = false) (hp : p x = true) : l.find? p = some x := by
  obtain ⟨hj, e⟩ := List.getElem?_eq_some_iff.1 hx
  rw [List.find?_eq_some_iff_append]
  refine ⟨hp, l.take j, l.drop (j + 1), ?_, fun y hy => by rw [h y hy]; rfl⟩
  rw [← e, ← List.drop_eq_getElem_cons hj, List.take_append_drop]
theorem take_more {α : Type} {p : α → Bool} {l : List α} {j : Nat} {x : α} (hx : l[j]? = some x) (h : ∀ y ∈ l.take j, p y = false) (hp : p x = false) : ∀ y ∈ l.take (j + 1), p y = false := by
  intro y hy
  rw [List.take_add_one, hx] at hy
  rcases List.mem_append.1 hy with hy | hy
  · exact h y hy
  · obtain rfl : y = x := by simpa using hy
    exact hp

set_option maxHeartbeats 8000000 in
theorem rjoin6_c (t : List Tab.C) (a : Option Addr) (cp : Nat) (s u : ByteArray) (w : World) (h : TabAt w (.slice a t.length cp) t) (hS : Small t) :
    Calls Tryz.prog 19 #[.slice a t.length cp, .string s, .string u] w fun e w' => e = .returned (.tuple #[.string ((Tab.join t s u).getD ⟨#[]⟩), .bool (Tab.join t s u).isSome]) ∧ Kept w w' := by
  have HM := Lib.hid (rmay_c t a cp w h hS)
  have HT := Lib.hid (fun (x : ByteArray) (W : World) (k : Kept w W) => rtyped6_c t (.slice a t.length cp) x W (tab_kept h k))
  have HS := Lib.hid (fun (x : ByteArray) (W : World) (k : Kept w W) => rsupers_c t a cp x W (tab_kept h k) hS.len)
  have HE := Lib.hid (show Tab.ats t s u = (Tab.isT t s && Tab.isT t u && Tab.ok t) from rfl)
  have HO := Lib.hid (fun (e : Tab.ok t = true) => Tab.ok_valid e)
  have HJ0 := Lib.hid (fun e => Tab.join_no (t := t) (s := s) (u := u) e)
  have HJ1 := Lib.hid (fun e => Tab.join_yes (t := t) (s := s) (u := u) e)
  generalize Tab.join t s u = jo at HJ0 HJ1 ⊢
  have HTs := Lib.hid (HT.out s)
  have HTu := Lib.hid (HT.out u)
  have HSs := Lib.hid (HS.out s)
  have HSu := Lib.hid (HS.out u)
  clear h hS HT HS
  generalize Tab.isT t s = ts at HTs HE
  generalize Tab.isT t u = tu at HTu HE
  cases ho : Tab.ok t with
  | false =>
    rw [ho] at HM HE
    obtain rfl : jo = none := HJ0.out (by rw [HE.out]; simp)
    clear ho
    go_enter Tryz.func19, Tryz.ntmps19
    go_wp2_with fail
    refine HM.out.mono ?_
    rintro e w1 ⟨rfl, k1⟩
    go_wp2_with fail
    go_ret2
    exact ⟨rfl, k1⟩
  | true =>
    rw [ho] at HM HE
    have HV := Lib.hid (HO.out ho)
    clear ho HO
    cases ts with
    | false =>
      obtain rfl : jo = none := HJ0.out (by rw [HE.out]; simp)
      go_enter Tryz.func19, Tryz.ntmps19
      go_wp2_with fail
      refine HM.out.mono ?_
      rintro e w1 ⟨rfl, k1⟩
      have HK1 := Lib.hid k1
      clear k1
      go_wp2_with fail
      refine (HTs.out _ HK1.out).mono ?_
      rintro e w2 ⟨rfl, k2⟩
      go_wp2_with fail
      go_ret2
      exact ⟨rfl, HK1.out.trans k2⟩
    | true =>
      cases tu with
      | false =>
        obtain rfl : jo = none := HJ0.out (by rw [HE.out]; simp)
        go_enter Tryz.func19, Tryz.ntmps19
        go_wp2_with fail
        refine HM.out.mono ?_
        rintro e w1 ⟨rfl, k1⟩
        have HK1 := Lib.hid k1
        clear k1
        go_wp2_with fail
        refine (HTs.out _ HK1.out).mono ?_
        rintro e w2 ⟨rfl, k2⟩
        have HK2 := Lib.hid (HK1.out.trans k2)
        clear k2
        go_wp2_with fail
        refine (HTu.out _ HK2.out).mono ?_
        rintro e w3 ⟨rfl, k3⟩
        go_wp2_with fail
        go_ret2
        exact ⟨rfl, HK2.out.trans k3⟩
      | true =>
        have HJ2 := Lib.hid (show jo = Tab.meet t s u from HJ1.out (by rw [HE.out]; rfl))
        clear HJ0 HJ1
        by_cases hsu : s = u
        · obtain rfl : jo = some s := by rw [HJ2.out, ← hsu]; exact Tab.meet_self HV.out s
          have hb := beq_yes hsu
          clear hsu
          go_enter Tryz.func19, Tryz.ntmps19
          go_wp2_with fail
          refine HM.out.mono ?_
          rintro e w1 ⟨rfl, k1⟩
          have HK1 := Lib.hid k1
          clear k1
          go_wp2_with fail
          refine (HTs.out _ HK1.out).mono ?_
          rintro e w2 ⟨rfl, k2⟩
          have HK2 := Lib.hid (HK1.out.trans k2)
          clear k2
          go_wp2_with fail
          refine (HTu.out _ HK2.out).mono ?_
          rintro e w3 ⟨rfl, k3⟩
          have HK3 := Lib.hid (HK2.out.trans k3)
          clear k3
          go_wp2_with fail
          go_ret2
          exact ⟨rfl, HK3.out⟩
        · have hb := beq_no hsu
          have HA := Lib.hid (show jo = (Tab.supers t s).find? fun x => inL (Tab.supers t u) x by rw [HJ2.out]; exact Tab.meet_sup HV.out hsu)
          clear hsu HJ2
          go_enter Tryz.func19, Tryz.ntmps19
          go_wp2_with fail
          refine HM.out.mono ?_
          rintro e w1 ⟨rfl, k1⟩
          have HK1 := Lib.hid k1
          clear k1
          go_wp2_with fail
          refine (HTs.out _ HK1.out).mono ?_
          rintro e w2 ⟨rfl, k2⟩
          have HK2 := Lib.hid (HK1.out.trans k2)
          clear k2
          go_wp2_with fail
          refine (HTu.out _ HK2.out).mono ?_
          rintro e w3 ⟨rfl, k3⟩
          have HK3 := Lib.hid (HK2.out.trans k3)
          clear k3
          go_wp2_with fail
          refine (HSs.out _ HK3.out).mono ?_
          rintro e w4 ⟨v4, rfl, hr4, k4⟩
          have HK4 := Lib.hid (HK3.out.trans k4)
          have hrow := owns_txt hr4
          clear hr4 k4
          obtain ⟨la, lc, rfl, l1, l2, l3⟩ := hrow
          unfold maxLen at l2
          have HL := Lib.hid l3
          clear l3
          obtain ⟨L, hL⟩ : ∃ L, Tab.supers t s = L := ⟨_, rfl⟩
          rw [hL] at l1 HL HA ⊢
          clear hL
          go_wp2_with fail
          go_loopw [9] (fun q wr => ∃ j : Nat, j ≤ L.length ∧ q = .int .i64 j ∧ (∀ x ∈ L.take j, inL (Tab.supers t u) x = false) ∧ Kept w4 wr) (fun q wr => L.length - (intOf q).toNat)
          case atStart => exact ⟨0, Nat.zero_le _, rfl, (fun x hx => by simp at hx), Kept.refl _⟩
          case round =>
            obtain ⟨j, hj, rfl, hno, hk5⟩ := hrel
            have HNO := Lib.hid hno
            have HK5 := Lib.hid (HK4.out.trans hk5)
            have HKL := Lib.hid hk5
            clear hno hk5
            by_cases hlt : j < L.length
            · have hltI : (j : Int) < (L.length : Int) := by omega
              have hx : L[j]? = some L[j] := List.getElem?_eq_getElem hlt
              obtain ⟨b, o, rfl, hcl⟩ := HL.out _ _ hx
              generalize L[j] = x at hx hcl
              have HX := Lib.hid hx
              have c0 : wr.cell? ⟨b, o + j, none⟩ = some (.string x) := by have := HKL.out.cell (show w4.cell? ⟨b, o + j * 1, none⟩ = some (.string x) from hcl); simpa using this
              have HCC := Lib.hid c0
              clear hx hcl
              have HSS := Lib.hid (HSu.out wr.drew HK5.out.drew)
              go_wp2_with fail
              go_region_with (first | (go_at_call 76; refine HSS.out.mono ?_; rintro e w6 ⟨v6, rfl, hr6, k6⟩; have HIN := Lib.hid (rin6_c _ _ x w6 (owns_txt hr6)); have HK6 := Lib.hid ((Kept.refl wr).drew.trans k6); have q0 : w6.cell? ⟨b, o + j, none⟩ = some (.string x) := HK6.out.cell HCC.out; obtain ⟨va6, vc6, rfl⟩ := owns_slice_n hr6; clear hr6 k6) | (go_at_call 77; refine HIN.out.mono ?_; rintro e w7 ⟨rfl, rfl⟩))
              all_goals
                cases hin : inL (Tab.supers t u) x with
                | true =>
                  obtain rfl : jo = some x := by rw [HA.out]; exact find_here HX.out HNO.out hin
                  go_wp2_with fail
                  go_ret2
                  exact ⟨rfl, HK5.out.trans HK6.out⟩
                | false =>
                  have HN := Lib.hid (take_more (p := fun x => inL (Tab.supers t u) x) HX.out HNO.out hin)
                  clear hin
                  go_wp2_with fail
                  go_roundw
                  case rel => exact ⟨j + 1, by omega, by go_num, HN.out, HKL.out.trans HK6.out⟩
                  case measure => simp [intOf]; omega
            · have hltI : ¬ (j : Int) < (L.length : Int) := by omega
              obtain rfl : j = L.length := by omega
              obtain rfl : jo = none := by
                rw [HA.out, List.find?_eq_none]
                intro x hx
                have := HNO.out x (by rw [List.take_length]; exact hx)
                simp [this]
              go_wp2_with fail
              go_ret2
              exact ⟨rfl, HK5.out⟩

theorem filter_next {α : Type} {p : α → Bool} {l : List α} {j : Nat} {x : α} (hx : l[j]? = some x) : (l.take (j + 1)).filter p = (l.take j).filter p ++ (if p x then [x] else []) := by
  rw [List.take_add_one, hx, List.filter_append]
  cases h : p x <;> simp [h]

def BeI (t : List Tab.C) (s : ByteArray) (w0 : World) (q v : Value) (W : World) : Prop :=
  ∃ j : Nat, j ≤ t.length ∧ q = .int .i64 j ∧ W.ownsRow w0.heap.size 9 1 v (((t.map Tab.C.name).take j).filter fun n => decide (s ∈ Tab.up t n)).length ((((t.map Tab.C.name).take j).filter fun n => decide (s ∈ Tab.up t n)).map Value.string) ∧ Kept w0 W

set_option maxHeartbeats 8000000 in
theorem rbelow_c (t : List Tab.C) (a : Option Addr) (cp : Nat) (s : ByteArray) (w : World) (h : TabAt w (.slice a t.length cp) t) (hS : Small t) :
    Calls Tryz.prog 24 #[.slice a t.length cp, .string s] w fun e w' => ∃ v, e = .returned v ∧ w'.ownsRow w.heap.size 9 1 v (Tab.below t s).length ((Tab.below t s).map Value.string) ∧ Kept w w' := by
  obtain ⟨i0, hi0, hz0, hzz1, hzz2⟩ := info_parts info_str
  have HM := Lib.hid (rmay_c t a cp w h hS)
  have HC := Lib.hid (fun (W : World) (k : Kept w W) => rcls6_c t (.slice a t.length cp) s W (tab_kept h k))
  have HSU := Lib.hid (fun (x : ByteArray) (W : World) (k : Kept w W) => rsub6_c t a cp x s W (tab_kept h k) hS)
  have HT := Lib.hid h
  have HE := Lib.hid (show Tab.below t s = if (Tab.isC t s && Tab.ok t) = true then (t.map Tab.C.name).filter (fun n => decide (s ∈ Tab.up t n)) else [] from rfl)
  generalize Tab.below t s = ans at HE ⊢
  have hts := hS.len
  clear h hS
  cases ho : Tab.ok t with
  | false =>
    rw [ho] at HM HE
    obtain rfl : ans = [] := by rw [HE.out]; simp
    clear ho
    go_enter Tryz.func24, Tryz.ntmps24
    go_wp2_with fail
    refine HM.out.mono ?_
    rintro e w1 ⟨rfl, k1⟩
    go_wp2_with fail
    go_ret
    exact ⟨_, rfl, World.ownsRow_nil _ _ _ _, k1⟩
  | true =>
    cases hc : Tab.isC t s with
    | false =>
      rw [ho] at HM HE
      rw [hc] at HC HE
      obtain rfl : ans = [] := by rw [HE.out]; simp
      clear ho hc
      go_enter Tryz.func24, Tryz.ntmps24
      go_wp2_with fail
      refine HM.out.mono ?_
      rintro e w1 ⟨rfl, k1⟩
      have HK1 := Lib.hid k1
      clear k1
      go_wp2_with fail
      refine (HC.out _ HK1.out).mono ?_
      rintro e w2 ⟨rfl, rfl⟩
      go_wp2_with fail
      go_ret
      exact ⟨_, rfl, World.ownsRow_nil _ _ _ _, HK1.out⟩
    | true =>
      have HV := Lib.hid (Tab.ok_valid ho)
      have HSV := Lib.hid (fun (i : Nat) (hi : i < t.length) => show Tab.sub t (Tab.nth t i).name s = decide (s ∈ Tab.up t (Tab.nth t i).name) by
        unfold Tab.sub Tab.ats
        rw [ho, Tab.isT_cls hc, Tab.isT_cls (HV.out.isC hi)]
        rfl)
      rw [ho] at HM HE
      rw [hc] at HC HE
      have HA := Lib.hid (show ans = (t.map Tab.C.name).filter (fun n => decide (s ∈ Tab.up t n)) from HE.out)
      clear ho hc HE
      go_enter Tryz.func24, Tryz.ntmps24
      go_wp2_with fail
      refine HM.out.mono ?_
      rintro e w1 ⟨rfl, k1⟩
      have HK1 := Lib.hid k1
      clear k1
      go_wp2_with fail
      refine (HC.out _ HK1.out).mono ?_
      rintro e w2 ⟨rfl, hw2⟩
      subst hw2
      go_wp2_with fail
      go_loopw [6, 5] (fun q v wr => BeI t s w q v wr) (fun q v wr => t.length - (intOf q).toNat)
      case atStart => exact ⟨0, Nat.zero_le _, rfl, by simpa using World.ownsRow_nil _ _ _ _, HK1.out⟩
      case round =>
        obtain ⟨j, hj, rfl, hown, hk⟩ := hrel
        have HO := Lib.hid hown
        have HK := Lib.hid hk
        obtain ⟨la, lc, rfl⟩ := owns_slice_n hown
        by_cases hlt : j < t.length
        · have hltI : (j : Int) < (t.length : Int) := by omega
          have hx : (t.map Tab.C.name)[j]? = some (Tab.nth t j).name := by rw [List.getElem?_map, Tab.of_nth hlt]; rfl
          have hcl := Row.cellsC HT.out hlt
          obtain ⟨b, o, rfl, hcl⟩ := hcl
          have hcp : j ≤ cp := by obtain ⟨_, c', e, h1, h2, _⟩ := HT.out; injection e with _ _ e3; subst e3; omega
          have c0 := hk.cell hcl.1
          have HCE := Lib.hid hcl.1
          have HV2 := HSV.out j hlt
          have HSC := HSU.out (Tab.nth t j).name wr hk
          rw [HV2] at HSC
          have HF := Lib.hid (filter_next (p := fun n => decide (s ∈ Tab.up t n)) hx)
          generalize (Tab.nth t j).name = nm at c0 HCE HSC HF
          have HSC := Lib.hid HSC
          generalize hfl : ((t.map Tab.C.name).take j).filter (fun n => decide (s ∈ Tab.up t n)) = FL at HO HF
          have hflen : FL.length ≤ t.length := by rw [← hfl]; exact Nat.le_trans (List.length_filter_le _ _) (by simp; omega)
          clear hfl hx hcl hown hk HV2
          by_cases hin : s ∈ Tab.up t nm
          · have HF2 := Lib.hid (show ((t.map Tab.C.name).take (j + 1)).filter (fun n => decide (s ∈ Tab.up t n)) = FL ++ [nm] by rw [HF.out, decide_eq_true hin]; rfl)
            rw [decide_eq_true hin] at HSC
            clear hin HF
            go_wp2_with fail
            refine HSC.out.mono ?_
            rintro e w3 ⟨rfl, k3⟩
            have HK3 := Lib.hid (HK.out.trans k3)
            have c1 := HK3.out.cell HCE.out
            have HRX := Lib.hid (owns_only (S := fun _ => False) HO.out ((Only.of_kept k3).alloc (.cells #[.string nm] 9)) (fun _ _ h => h))
            have HSX := Lib.hid (src_str w3 nm)
            have hsz := HK3.out.size
            have HGE := Lib.hid (fun k (e : (Value.slice la FL.length lc).ownBlock = some k) => rown_ge HO.out e)
            clear k3 c0
            go_wp2_with (at_builtin; refine wpList_apk rfl (.tmp 30) (.tmp 36) 28 28 rfl w.heap.size 1 9 i0 _ 16 Tryz.underlying28 hi0 hz0 hzz1 hzz2 rfl rfl HRX.out rfl HSX.out (by unfold maxLen; omega) (by omega) (by simp; omega) ?_; intro v' w5 hown' hgrow hlies; have HN := Lib.hid hown'; have HK5 := Lib.hid ((HK3.out.alloc (.cells #[.string nm] 9)).grown hgrow fun k e => HGE.out k e); obtain ⟨va', vn', vc', rfl⟩ := owns_slice hown'; clear hown' hgrow hlies)
            go_roundw
            case rel => exact ⟨j + 1, by omega, by go_num, by rw [HF2.out]; simpa using HN.out, HK5.out⟩
            case measure => simp [intOf]; omega
          · have HF2 := Lib.hid (show ((t.map Tab.C.name).take (j + 1)).filter (fun n => decide (s ∈ Tab.up t n)) = FL by rw [HF.out, decide_eq_false hin]; simp)
            rw [decide_eq_false hin] at HSC
            clear hin HF
            go_wp2_with fail
            refine HSC.out.mono ?_
            rintro e w3 ⟨rfl, k3⟩
            have HK3 := Lib.hid (HK.out.trans k3)
            have HO3 := Lib.hid (owns_only (S := fun _ => False) HO.out (Only.of_kept k3) (fun _ _ h => h))
            clear k3
            go_wp2_with fail
            go_roundw
            case rel => exact ⟨j + 1, by omega, by go_num, by rw [HF2.out]; exact HO3.out, HK3.out⟩
            case measure => simp [intOf]; omega
        · have hltI : ¬ (j : Int) < (t.length : Int) := by omega
          obtain rfl : j = t.length := by omega
          have HL := Lib.hid (show ans = ((t.map Tab.C.name).take t.length).filter (fun n => decide (s ∈ Tab.up t n)) by rw [HA.out, List.take_of_length_le (by simp)])
          clear hown hk
          go_wp2_with fail
          go_ret
          exact ⟨_, rfl, by rw [HL.out]; exact HO.out, HK.out⟩

theorem rleaf_c (t : List Tab.C) (a : Option Addr) (cp : Nat) (s : ByteArray) (w : World) (h : TabAt w (.slice a t.length cp) t) (hS : Small t) :
    Calls Tryz.prog 26 #[.slice a t.length cp, .string s] w fun e w' => e = .returned (.bool (Tab.leaf t s)) ∧ Kept w w' := by
  have HB := Lib.hid (rbelow_c t a cp s w h hS)
  have HE := Lib.hid (show Tab.leaf t s = decide ((Tab.below t s).length = 1) by
    cases ho : Tab.ok t with
    | false => unfold Tab.leaf Tab.below; rw [ho]; simp
    | true =>
      cases hc : Tab.isC t s with
      | false => unfold Tab.leaf Tab.below; rw [hc]; simp
      | true =>
        obtain ⟨i, hi, rfl⟩ := Tab.isC_at hc
        exact (Tab.ok_valid ho).leaf_len hi ho)
  generalize Tab.leaf t s = ans at HE ⊢
  generalize Tab.below t s = L at HB HE
  clear h hS
  by_cases hl : L.length = 1
  · obtain rfl : ans = true := by rw [HE.out, decide_eq_true hl]
    have HL := Lib.hid hl
    clear hl
    go_enter Tryz.func26, Tryz.ntmps26
    go_wp2_with fail
    refine HB.out.mono ?_
    rintro e w1 ⟨v, rfl, hr, k1⟩
    obtain ⟨va, vc, rfl⟩ := owns_slice_n hr
    have hl := HL.out
    have hlI : (L.length : Int) = 1 := by omega
    clear hr
    go_wp2_with fail
    go_ret
    exact ⟨by simp [hl], k1⟩
  · obtain rfl : ans = false := by rw [HE.out, decide_eq_false hl]
    have hlI : ¬ (L.length : Int) = 1 := by omega
    go_enter Tryz.func26, Tryz.ntmps26
    go_wp2_with fail
    refine HB.out.mono ?_
    rintro e w1 ⟨v, rfl, hr, k1⟩
    obtain ⟨va, vc, rfl⟩ := owns_slice_n hr
    clear hr
    go_wp2_with fail
    go_ret
    exact ⟨by simp; exact hlI, k1⟩

end Go.Proofs.YthooiofaicdhgaaGreatDoor
