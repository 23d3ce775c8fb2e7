/- Plain: what ConsistPlain asks of Has, Goes and Sub. The walk of ConsistPlain. -/
import Derived.Test.YtbjomddjbfgclaaGreatDoorCfn
import Derived.Test.YtbjomddjbfgclaaGreatDoorVla
import Derived.Test.YtbjomddjbfgclaaGreatDoorCkn
import Derived.Test.YtbjomddjbfgclaaGreatDoorLgt
set_option linter.unusedSimpArgs false
set_option linter.unusedVariables false
set_option maxRecDepth 100000
namespace Go.Proofs.YtbjomddjbfgclaaGreatDoor.Tab

theorem shp_told (t : List C) (c : ByteArray) : (shp t c).map (fun x => (x.name, x.ar)) = members t c := by
  unfold shp mbs members
  simp only [List.map_append, List.map_map]
  rfl

theorem hasB_of {α β : Type} {L U : List (Mb α)} (h : ∀ x ∈ U.map (fun x => (x.name, x.ar)), x ∈ L.map (fun x => (x.name, x.ar))) : hasB L U = true := by
  unfold hasB
  refine List.all_eq_true.2 fun m hm => List.any_eq_true.2 ?_
  obtain ⟨x, hx, e⟩ := List.mem_map.1 (h _ (List.mem_map.2 ⟨m, hm, rfl⟩))
  injection e with e1 e2
  refine ⟨x, hx, ?_⟩
  unfold alike
  rw [decide_eq_true e1, decide_eq_true e2]
  rfl

theorem has_up {t : List C} (ho : ok t = true) {s u : ByteArray} (hs : isC t s = true) (hu : isC t u = true) (h : u ∈ up t s) : has t s u = true := by
  have hv := ok_valid ho
  obtain ⟨i, hi, rfl⟩ := isC_at hs
  unfold has
  rw [hs, hu, ho, hasB_of (β := Int)]
  · rfl
  · rw [shp_told, shp_told]
    exact fun x hx => (hv.has i hi h x hx).1

theorem up_isC {t : List C} (hv : Valid t) {s u : ByteArray} (hs : isC t s = true) (h : u ∈ up t s) : isC t u = true := by
  obtain ⟨i, hi, rfl⟩ := isC_at hs
  rw [hv.up_cls hi] at h
  obtain ⟨k, hk, rfl⟩ := List.mem_map.1 h
  exact hv.isC ((lineF_nodup t _ _ _).2 k hk).2

theorem up_non {t : List C} {s u : ByteArray} (hs : isC t s = false) (h : u ∈ up t s) : u = s := by
  unfold up at h
  rw [hs] at h
  exact List.mem_singleton.1 h

theorem sub_up {t : List C} {s u : ByteArray} (h : sub t s u = true) : u ∈ up t s := by
  unfold sub at h
  simp only [Bool.and_eq_true] at h
  exact of_decide_eq_true h.2

theorem any_no {t : List C} (hv : Valid t) : isC t ⟨#[63]⟩ = false := by
  cases h : isC t ⟨#[63]⟩ with
  | false => rfl
  | true =>
    obtain ⟨i, hi, e⟩ := isC_at h
    have := hv.cls hi
    rw [← e] at this
    exact absurd this (by decide +kernel)

theorem ats_of {t : List C} (ho : ok t = true) {s u : ByteArray} (hs : isT t s = true) (hu : isT t u = true) : ats t s u = true := by
  unfold ats; rw [hs, hu, ho]; rfl

theorem has_no {t : List C} {s u : ByteArray} (h : (isC t s && isC t u) = false) : has t s u = false := by
  unfold has; rw [h]; rfl

theorem plain_yes {t : List C} (ho : ok t = true) {s u : ByteArray} (hs : isT t s = true) (hu : isT t u = true) (h : s = ⟨#[63]⟩ ∨ u = ⟨#[63]⟩ ∨ s = u) : goes t s u = true ∧ has t s u = (isC t s && isC t u) := by
  have hv := ok_valid ho
  by_cases h1 : s = ⟨#[63]⟩
  · subst h1
    refine ⟨by unfold goes; rw [if_pos rfl]; exact ats_of ho hu hu, ?_⟩
    rw [any_no hv]; exact has_no (by rw [any_no hv]; rfl)
  · by_cases h2 : u = ⟨#[63]⟩
    · subst h2
      refine ⟨by unfold goes; rw [if_neg h1, if_pos rfl]; exact ats_of ho hs hs, ?_⟩
      rw [any_no hv, Bool.and_false]; exact has_no (by rw [any_no hv, Bool.and_false])
    · obtain rfl : s = u := by rcases h with h | h | h; exact absurd h h1; exact absurd h h2; exact h
      refine ⟨?_, ?_⟩
      · unfold goes; rw [if_neg h1, if_neg h1]
        have : sub t s s = true := by unfold sub; rw [ats_of ho hs hs, decide_eq_true (hv.up_self s)]; rfl
        rw [this]; rfl
      · cases hc : isC t s with
        | true => exact has_up ho hc hc (hv.up_self s)
        | false => exact has_no (by rw [hc]; rfl)

theorem plain_no {t : List C} (ho : ok t = true) {s u : ByteArray} (h1 : ¬ s = ⟨#[63]⟩) (h2 : ¬ u = ⟨#[63]⟩) (h3 : ¬ s = u) (h : (isC t s && isC t u) = false) : goes t s u = false ∧ has t s u = false := by
  have hv := ok_valid ho
  refine ⟨?_, has_no h⟩
  unfold goes
  rw [if_neg h1, if_neg h2, has_no h]
  cases hb : sub t s u with
  | false => rfl
  | true =>
    have hu := sub_up hb
    cases hc : isC t s with
    | true => rw [hc, up_isC hv hc hu] at h; cases h
    | false => exact absurd (up_non hc hu).symm h3

theorem plain_cls {t : List C} (ho : ok t = true) {s u : ByteArray} (h1 : ¬ s = ⟨#[63]⟩) (h2 : ¬ u = ⟨#[63]⟩) (hs : isC t s = true) (hu : isC t u = true) : (goes t s u = true → has t s u = true) ∧ (sub t s u = true → goes t s u = true ∧ has t s u = true) := by
  have key : sub t s u = true → has t s u = true := fun hb => has_up ho hs hu (sub_up hb)
  have hg : goes t s u = (sub t s u || (has t s u && goesN (inL (gfp (shps t))) (numOf t s) (numOf t u))) := by unfold goes; rw [if_neg h1, if_neg h2]
  refine ⟨fun h => ?_, fun h => ⟨by rw [hg, h]; rfl, key h⟩⟩
  rw [hg] at h
  cases hb : sub t s u with
  | true => exact key hb
  | false =>
    rw [hb] at h
    simp only [Bool.false_or, Bool.and_eq_true] at h
    exact h.1

/-- What may come of two types. -/
inductive Plain (t : List C) (s u : ByteArray) : Prop where
  | yes (h : s = ⟨#[63]⟩ ∨ u = ⟨#[63]⟩ ∨ s = u) (g : goes t s u = true) (k : has t s u = (isC t s && isC t u))
  | no (h1 : ¬ s = ⟨#[63]⟩) (h2 : ¬ u = ⟨#[63]⟩) (h3 : ¬ s = u) (h : (isC t s && isC t u) = false) (g : goes t s u = false) (k : has t s u = false)
  | cls (h1 : ¬ s = ⟨#[63]⟩) (h2 : ¬ u = ⟨#[63]⟩) (h3 : ¬ s = u) (hs : isC t s = true) (hu : isC t u = true) (g : goes t s u = true → has t s u = true) (k : sub t s u = true → goes t s u = true ∧ has t s u = true)

theorem plain_of {t : List C} (ho : ok t = true) {s u : ByteArray} (hs : isT t s = true) (hu : isT t u = true) : Plain t s u := by
  by_cases h : s = ⟨#[63]⟩ ∨ u = ⟨#[63]⟩ ∨ s = u
  · exact .yes h (plain_yes ho hs hu h).1 (plain_yes ho hs hu h).2
  · have h1 : ¬ s = ⟨#[63]⟩ := fun e => h (.inl e)
    have h2 : ¬ u = ⟨#[63]⟩ := fun e => h (.inr (.inl e))
    have h3 : ¬ s = u := fun e => h (.inr (.inr e))
    cases hc : (isC t s && isC t u) with
    | false => exact .no h1 h2 h3 hc (plain_no ho h1 h2 h3 hc).1 (plain_no ho h1 h2 h3 hc).2
    | true =>
      simp only [Bool.and_eq_true] at hc
      exact .cls h1 h2 h3 hc.1 hc.2 (plain_cls ho h1 h2 hc.1 hc.2).1 (plain_cls ho h1 h2 hc.1 hc.2).2
end Go.Proofs.YtbjomddjbfgclaaGreatDoor.Tab

namespace Go.Proofs.YtbjomddjbfgclaaGreatDoor
open Go.ChangeShapes Go.WideShapes Go.ChangeAt Go.RowKit

theorem small_of_short7 {t : List Tab.C} (h : t.length ≤ 9 ∧ ∀ c ∈ t, ShortC c) : Small t :=
  ⟨by omega, fun c hc => by have := (h.2 c hc).1; omega, fun c hc => by have := (h.2 c hc).2.1; omega, fun c hc m hm => by have := (h.2 c hc).2.2 m hm; unfold ShortM at this; omega⟩

/-- One of a table's types. -/
def OneOf (t : List Tab.C) (X : ByteArray) : Prop := X.size ≤ maxLen ∧ (X ∈ Tab.basics ∨ ∃ i, i < t.length ∧ X = (Tab.nth t i).name)
def TypeOut (t : List Tab.C) (w : World) (e : Ending) (w' : World) : Prop := ∃ X, e = .returned (.string X) ∧ OneOf t X ∧ Kept w w'

theorem OneOf.typ {t : List Tab.C} (hv : Tab.Valid t) {X : ByteArray} (h : OneOf t X) : Tab.isT t X = true := by
  rcases h.2 with h | ⟨i, hi, rfl⟩
  · exact Tab.isT_own h
  · exact Tab.isT_cls (hv.isC hi)

theorem base_of {t : List Tab.C} {X : ByteArray} (h : X ∈ Tab.basics) (hs : X.size ≤ 100) : OneOf t X := ⟨by unfold maxLen; omega, .inl h⟩

set_option maxHeartbeats 2000000 in
theorem type7_c (t : List Tab.C) (a : Option Addr) (cp : Nat) (x : Int) (w : World) (h : TabAt w (.slice a t.length cp) t) (ht : t.length ≤ 900) (h1 : -9223372036854775808 ≤ x) (h2 : x ≤ 9223372036854775807) :
    Calls Tryz.prog 28 #[.slice a t.length cp, .int .i64 x] w (TypeOut t w) := by
  have HT := Lib.hid h
  clear h
  have HP := Lib.hid (fun W => pick_c x (6 + t.length) W (by omega) (by omega) h1 h2)
  rw [show ((6 + t.length : Nat) : Int) = 6 + (t.length : Int) by omega] at HP
  go_enter Tryz.func28, Tryz.ntmps28
  go_wp2_with fail
  refine (HP.out _).mono ?_
  rintro e w1 ⟨⟨k, hk, rfl⟩, rfl⟩
  have HK := Lib.hid ((Kept.refl w).alloc (.cells #[.string ⟨#[63]⟩, .string ⟨#[105, 110, 116]⟩, .string ⟨#[114, 101, 97, 108]⟩, .string ⟨#[98, 111, 111, 108]⟩, .string ⟨#[115, 116, 114]⟩, .string ⟨#[117, 110, 105, 116]⟩] 9))
  by_cases h6 : k < 6
  · clear hk HT HP
    rcases k with _ | _ | _ | _ | _ | _ | k
    all_goals first
      | (exfalso; omega)
      | (go_wp2_with fail
         go_ret
         exact ⟨_, rfl, base_of (by decide +kernel) (by decide +kernel), HK.out⟩)
  · have h6I : ¬ (k : Int) < 6 := by omega
    have hj : k - 6 < t.length := by omega
    obtain ⟨b, o, rfl, hcl⟩ := Row.cellsC (tab_kept HT.out HK.out) hj
    have hcp : t.length ≤ cp := by obtain ⟨_, c', e, h1, h2, _⟩ := HT.out; injection e with _ _ e3; subst e3; omega
    obtain ⟨j, rfl⟩ : ∃ j, k = j + 6 := ⟨k - 6, by omega⟩
    rw [show j + 6 - 6 = j from rfl] at hcl hj
    have c0 := hcl.1
    have hsz := hcl.2.2.2.2.1
    have HN := Lib.hid (show OneOf t (Tab.nth t j).name from ⟨hsz, .inr ⟨j, hj, rfl⟩⟩)
    have hkj : ((j + 6 : Nat) : Int) - 6 = (j : Int) := by omega
    have hjI : (j : Int) < (t.length : Int) := by omega
    generalize (Tab.nth t j).name = nm at c0 HN
    clear hcl hk HP
    go_wp2_with fail
    go_ret
    exact ⟨_, rfl, HN.out, HK.out⟩

set_option maxHeartbeats 8000000 in
theorem plain7_c (t : List Tab.C) (a : Option Addr) (cp : Nat) (x y : Int) (w : World) (hTb : Tb w) (h : TabAt w (.slice a t.length cp) t) (h1 : -9223372036854775808 ≤ x) (h2 : x ≤ 9223372036854775807) (h3 : -9223372036854775808 ≤ y) (h4 : y ≤ 9223372036854775807) :
    Calls Tryz.prog 5 #[.slice a t.length cp, .int .i64 x, .int .i64 y] w fun e w' => e = .returned (.bool true) ∧ Kept w w' := by
  have HTB := Lib.hid hTb
  have HT := Lib.hid h
  clear hTb h
  go_enter Tryz.func5, Tryz.ntmps5
  go_wp2_with fail
  refine (known7_c w HTB.out).mono ?_
  rintro e w1 ⟨rfl, k1⟩
  have HK1 := Lib.hid k1
  have HL := Lib.hid (long_c t (.slice a t.length cp) w1 (tab_kept HT.out k1))
  clear k1
  go_wp2_with fail
  refine HL.out.mono ?_
  rintro e w2 ⟨⟨lb, rfl, hsh⟩, k2⟩
  have HK2 := Lib.hid (HK1.out.trans k2)
  clear k2 HL
  cases lb with
  | true =>
    clear hsh
    go_wp2_with fail
    go_ret
    exact ⟨rfl, HK2.out⟩
  | false =>
    have HSH := Lib.hid (hsh rfl)
    clear hsh
    have HC := Lib.hid (check_c t a cp w2 (HTB.out.kept HK2.out) (tab_kept HT.out HK2.out) (small_of_short7 HSH.out))
    go_wp2_with fail
    refine HC.out.mono ?_
    rintro e w3 ⟨rfl, k3⟩
    have HK3 := Lib.hid (HK2.out.trans k3)
    clear k3 HC
    obtain ⟨fe, fa, hfe⟩ : ∃ fe fa, Tab.check t = (fe, fa) := ⟨_, _, rfl⟩
    rw [hfe]
    dsimp only
    have HFE := Lib.hid hfe
    clear hfe
    by_cases z1 : fe = 0
    · by_cases z2 : fa = 0
      · subst z1 z2
        have HO := Lib.hid (show Tab.ok t = true by unfold Tab.ok; rw [HFE.out]; rfl)
        have HV := Lib.hid (Tab.valid_of HFE.out)
        clear HFE
        have HX := Lib.hid (type7_c t a cp x w3 (tab_kept HT.out HK3.out) (by have := HSH.out.1; omega) h1 h2)
        go_wp2_with fail
        refine HX.out.mono ?_
        rintro e w4 ⟨X, rfl, oX, k4⟩
        have HK4 := Lib.hid (HK3.out.trans k4)
        clear k4 HX
        have HY := Lib.hid (type7_c t a cp y w4 (tab_kept HT.out HK4.out) (by have := HSH.out.1; omega) h3 h4)
        go_wp2_with fail
        refine HY.out.mono ?_
        rintro e w5 ⟨Y, rfl, oY, k5⟩
        have HK5 := Lib.hid (HK4.out.trans k5)
        clear k5 HY
        have HA := Lib.hid (tfind_c t (.slice a t.length cp) X w5 (tab_kept HT.out HK5.out))
        have HB := Lib.hid (tfind_c t (.slice a t.length cp) Y w5 (tab_kept HT.out HK5.out))
        unfold FindPost at HA HB
        rw [show (Tab.ix Tab.C.name t X).isSome = Tab.isC t X from rfl] at HA
        rw [show (Tab.ix Tab.C.name t Y).isSome = Tab.isC t Y from rfl] at HB
        have HG := Lib.hid (goes_cc t a cp X Y w5 (HTB.out.kept HK5.out) (tab_kept HT.out HK5.out) (small_of_short7 HSH.out) oX.1 oY.1)
        have HH := Lib.hid (fun W (kw : Kept w W) => has_cc t a cp X Y W (HTB.out.kept kw) (tab_kept HT.out kw) (small_of_short7 HSH.out))
        have HS := Lib.hid (fun W (kw : Kept w W) => sub_c t a cp X Y W (HTB.out.kept kw) (tab_kept HT.out kw) (small_of_short7 HSH.out))
        have hpl := Tab.plain_of HO.out (oX.typ HV.out) (oY.typ HV.out)
        clear oX oY HV HO
        generalize Tab.num (Tab.ix Tab.C.name t X) = n1 at HA
        generalize Tab.num (Tab.ix Tab.C.name t Y) = n2 at HB
        go_wp2_with fail
        refine HA.out.mono ?_
        rintro e w5' ⟨rfl, rfl⟩
        go_wp2_with fail
        refine HB.out.mono ?_
        rintro e w5'' ⟨rfl, rfl⟩
        go_wp2_with fail
        refine HG.out.mono ?_
        rintro e w6 ⟨rfl, k6⟩
        have HK6 := Lib.hid (HK5.out.trans k6)
        clear k6 HA HB HG
        go_wp2_with fail
        refine (HH.out _ HK6.out).mono ?_
        rintro e w7 ⟨rfl, k7⟩
        have HK7 := Lib.hid (HK6.out.trans k7)
        clear k7 HH
        cases hpl with
        | yes h g k =>
          rw [g, k]
          generalize Tab.isC t X = p
          generalize Tab.isC t Y = q
          clear g k HS
          by_cases e1 : X = ⟨#[63]⟩
          · have b1 : (X.toList == [63]) = true := lit_yes e1
            clear h e1
            cases p <;> cases q <;>
            · go_wp2_with fail
              go_ret
              exact ⟨by first | rfl | simp, HK7.out⟩
          · have b1 : (X.toList == [63]) = false := lit_no e1
            by_cases e2 : Y = ⟨#[63]⟩
            · have b2 : (Y.toList == [63]) = true := lit_yes e2
              clear h e1 e2
              cases p <;> cases q <;>
              · go_wp2_with fail
                go_ret
                exact ⟨by first | rfl | simp, HK7.out⟩
            · have b2 : (Y.toList == [63]) = false := lit_no e2
              have b3 : (X.toList == Y.toList) = true := beq_yes (by rcases h with h | h | h; exact absurd h e1; exact absurd h e2; exact h)
              clear h e1 e2
              cases p <;> cases q <;>
              · go_wp2_with fail
                go_ret
                exact ⟨by first | rfl | simp, HK7.out⟩
        | no e1 e2 e3 h g k =>
          rw [g, k]
          have b1 : (X.toList == [63]) = false := lit_no e1
          have b2 : (Y.toList == [63]) = false := lit_no e2
          have b3 : (X.toList == Y.toList) = false := beq_no e3
          generalize Tab.isC t X = p at h ⊢
          generalize Tab.isC t Y = q at h ⊢
          clear e1 e2 e3 g k HS
          cases p <;> cases q <;> first
            | (exfalso; exact absurd h (by decide))
            | (clear h
               go_wp2_with fail
               go_ret
               exact ⟨by first | rfl | simp, HK7.out⟩)
        | cls e1 e2 e3 hs hu g k =>
          have b1 : (X.toList == [63]) = false := lit_no e1
          have b2 : (Y.toList == [63]) = false := lit_no e2
          have b3 : (X.toList == Y.toList) = false := beq_no e3
          rw [hs, hu]
          clear e1 e2 e3 hs hu
          generalize Tab.goes t X Y = gb at g k ⊢
          generalize Tab.has t X Y = hb at g k ⊢
          generalize Tab.sub t X Y = sb at HS k
          cases gb <;> cases hb <;> cases sb <;> first
            | (exfalso; first | exact absurd (g rfl) (by decide) | exact absurd (k rfl).1 (by decide) | exact absurd (k rfl).2 (by decide))
            | (clear g k
               go_wp2_with fail
               first
                 | (go_ret
                    exact ⟨by first | rfl | simp, HK7.out⟩)
                 | (refine (HS.out _ HK7.out).mono ?_
                    rintro e w8 ⟨rfl, k8⟩
                    have HK8 := Lib.hid (HK7.out.trans k8)
                    clear k8 HS
                    go_wp2_with fail
                    go_ret
                    exact ⟨by first | rfl | simp, HK8.out⟩))
      · go_wp2_with fail
        go_ret
        exact ⟨rfl, HK3.out⟩
    · go_wp2_with fail
      go_ret
      exact ⟨rfl, HK3.out⟩

end Go.Proofs.YtbjomddjbfgclaaGreatDoor
