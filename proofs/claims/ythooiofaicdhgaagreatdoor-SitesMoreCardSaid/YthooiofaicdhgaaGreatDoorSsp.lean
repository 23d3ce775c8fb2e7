/- Sites in plain words: of which kind one is, whether one may be, which sides a label has, and whether it may be blamed. -/
import Derived.Test.YthooiofaicdhgaaGreatDoorCfn
import Derived.Test.YthooiofaicdhgaaGreatDoorPcn
import Derived.Test.YthooiofaicdhgaaGreatDoorTbf
import Derived.Lib.Join
import Derived.Lib.ItoaNum
set_option linter.unusedSimpArgs false
set_option linter.unusedVariables false
set_option maxRecDepth 100000
namespace Go.Proofs.YthooiofaicdhgaaGreatDoor
open Go.ChangeShapes Go.WideShapes Go.ChangeAt Go.RowKit
namespace Tab

structure St where
  what : Int
  a : ByteArray
  b : ByteArray

def kindS (x : St) : Int := if 0 < x.what ∧ x.what < 6 then x.what else 0
def isCast (t : List C) (a b : ByteArray) : Bool := goes t a b && !sub t a b
def dynB : ByteArray := ⟨#[63]⟩
def chkSite (t : List C) (x : St) : Int :=
  if kindS x = 0 then 2 else if kindS x = 1 then (if isCast t x.a x.b = true then 0 else 7) else if x.a = dynB ∧ x.b = dynB then 0 else 2
def chkSites (t : List C) : Nat → List St → Int × Int
  | _, [] => (0, 0)
  | i, x :: r => if chkSite t x = 0 then chkSites t (i + 1) r else (chkSite t x, (i : Int))
def sitesV (t : List C) (l : List St) : Int × Int := if 5000 < l.length then (12, 5000) else chkSites t 0 l

/-- The site of a label. -/
def siteAt (l : List St) (n : Int) : Option St := if 0 < n then l[(n - 1).toNat]? else if n < 0 then l[(-n - 1).toNat]? else none
/-- The side that a label blames, and the other one. -/
def blamed (n : Int) (x : St) : ByteArray := if 0 < n then x.a else x.b
def other (n : Int) (x : St) : ByteArray := if 0 < n then x.b else x.a
noncomputable def mayS (t : List C) (n : Int) (x : St) : Bool := if kindS x = 1 then !precise t (blamed n x) (other n x) else decide (0 < n)
def kindW (k : Int) : List UInt8 := if k = 1 then [99, 97, 115, 116] else if k = 2 then [103, 101, 116] else if k = 3 then [112, 117, 116] else if k = 4 then [99, 97, 108, 108] else if k = 5 then [111, 112] else [63]
def textS (n : Int) (x : St) : ByteArray :=
  ⟨(Lib.join [Lib.decDigits n.natAbs, (if 0 < n then [43] else [45]), kindW (kindS x), x.a.data.toList, [62], x.b.data.toList] [32]).toArray⟩

theorem kind_range (x : St) : 0 ≤ kindS x ∧ kindS x < 6 := by
  unfold kindS
  split <;> omega

theorem chk_iff {t : List C} : ∀ {i : Nat} {l : List St}, (chkSites t i l).1 = 0 ↔ ∀ x ∈ l, chkSite t x = 0
  | i, [] => by simp [chkSites]
  | i, x :: r => by
    unfold chkSites
    by_cases h : chkSite t x = 0
    · rw [if_pos h, chk_iff]
      simp [h]
    · rw [if_neg h]
      simp [h]
theorem chk_zero {t : List C} : ∀ {i : Nat} {l : List St}, (chkSites t i l).1 = 0 → chkSites t i l = (0, 0)
  | i, [], _ => rfl
  | i, x :: r, h => by
    unfold chkSites at h ⊢
    by_cases hx : chkSite t x = 0
    · rw [if_pos hx] at h ⊢
      exact chk_zero h
    · rw [if_neg hx] at h
      exact absurd h hx
/-- The list up to a place is without fault: what is behind decides. -/
theorem chk_drop {t : List C} : ∀ {i : Nat} {l : List St} (j : Nat), (∀ x ∈ l.take j, chkSite t x = 0) → j ≤ l.length → chkSites t i l = chkSites t (i + j) (l.drop j)
  | i, l, 0, _, _ => rfl
  | i, [], j + 1, _, h => by simp at h
  | i, x :: r, j + 1, h, hj => by
    conv => lhs; unfold chkSites
    rw [if_pos (h x (by simp)), chk_drop j (fun y hy => h y (by simp [hy])) (by simpa using hj), List.drop_succ_cons, show i + 1 + j = i + (j + 1) by omega]

theorem siteAt_up {l : List St} {n : Int} {x : St} (h0 : 0 < n) (h : l[(n - 1).toNat]? = some x) : siteAt l n = some x := by
  unfold siteAt; rw [if_pos h0, h]
theorem siteAt_down {l : List St} {n : Int} {x : St} (h0 : n < 0) (h : l[(-n - 1).toNat]? = some x) : siteAt l n = some x := by
  unfold siteAt; rw [if_neg (by omega), if_pos h0, h]
theorem siteAt_none {l : List St} {n : Int} (h : n = 0 ∨ (l.length : Int) < n ∨ n < -(l.length : Int)) : siteAt l n = none := by
  unfold siteAt
  split
  · exact List.getElem?_eq_none (by omega)
  · split
    · exact List.getElem?_eq_none (by omega)
    · rfl
theorem siteAt_some {l : List St} {n : Int} (h : ¬ n = 0) (h1 : ¬ (l.length : Int) < n) (h2 : ¬ n < -(l.length : Int)) : ∃ k x, k < l.length ∧ l[k]? = some x ∧ siteAt l n = some x ∧ (k : Int) = (if 0 < n then n else -n) - 1 := by
  by_cases h0 : 0 < n
  · have hk : (n - 1).toNat < l.length := by omega
    exact ⟨_, _, hk, List.getElem?_eq_getElem hk, siteAt_up h0 (List.getElem?_eq_getElem hk), by rw [if_pos h0]; omega⟩
  · have hk : (-n - 1).toNat < l.length := by omega
    exact ⟨_, _, hk, List.getElem?_eq_getElem hk, siteAt_down (by omega) (List.getElem?_eq_getElem hk), by rw [if_neg h0]; omega⟩
theorem cast_from {t : List C} {b : ByteArray} (h : isCast t dynB b = true) : precise t dynB b = false ∧ precise t b dynB = true := by
  unfold isCast at h
  rw [Bool.and_eq_true] at h
  obtain ⟨h1, h2⟩ := h
  have hats : ats t b b = true := by
    have : goes t dynB b = ats t b b := by unfold goes; exact if_pos rfl
    rw [← this]; exact h1
  have hat := hats
  unfold ats at hats
  rw [Bool.and_eq_true, Bool.and_eq_true] at hats
  obtain ⟨⟨hb, _⟩, hok⟩ := hats
  have hd : isT t dynB = true := by unfold isT dynB; simp [basics]
  have hn := dyn_no (ok_valid hok)
  have hne : ¬ b = dynB := by
    rintro rfl
    unfold sub ats at h2
    have hu : up t dynB = [dynB] := by unfold up; rw [show isC t dynB = false from hn]; rfl
    rw [hb, hok, hu] at h2
    simp at h2
  constructor
  · cases hp : precise t dynB b with
    | false => rfl
    | true =>
      exfalso
      unfold precise at hp
      rw [Bool.and_eq_true] at hp
      rcases pcs_iff.1 hp.2 with ha | ha
      · rcases alw_iff.1 ha with e | e
        · exact hne e.symm
        · exact hne e
      · have := (both_iff.1 (pre_both ha)).1
        rw [show isC t dynB = false from hn] at this
        cases this
  · unfold precise ats
    rw [hb, hd, hok]
    exact pcs_dyn t b

theorem cast_to {t : List C} {a : ByteArray} (h : isCast t a dynB = true) : precise t a dynB = true ∧ precise t dynB a = false := by
  have h' : isCast t dynB a = true := by
    unfold isCast at h ⊢
    rw [Bool.and_eq_true] at h
    obtain ⟨h1, h2⟩ := h
    have hg : ats t a a = true := by
      unfold goes at h1
      by_cases e : a = ⟨#[63]⟩
      · rw [if_pos e] at h1
        rw [e]
        exact h1
      · rw [if_neg e, if_pos (show dynB = ⟨#[63]⟩ from rfl)] at h1
        exact h1
    have hats := hg
    unfold ats at hats
    rw [Bool.and_eq_true, Bool.and_eq_true] at hats
    obtain ⟨⟨hb, _⟩, hok⟩ := hats
    have hn := dyn_no (ok_valid hok)
    have hd : isT t dynB = true := by unfold isT dynB; simp [basics]
    have hu : up t dynB = [dynB] := by unfold up; rw [show isC t dynB = false from hn]; rfl
    rw [Bool.and_eq_true]
    refine ⟨by unfold goes; rw [if_pos (show dynB = ⟨#[63]⟩ from rfl)]; exact hg, ?_⟩
    cases hs : sub t dynB a with
    | false => rfl
    | true =>
      exfalso
      unfold sub at hs
      rw [Bool.and_eq_true, hu] at hs
      have e : a = dynB := by simpa using hs.2
      subst e
      unfold sub ats at h2
      rw [hb, hok, hu] at h2
      simp at h2
  exact ⟨(cast_from h').2, (cast_from h').1⟩
end Tab

def SiteAt (w : World) (b o : Nat) (x : Tab.St) : Prop :=
  w.cell? ⟨b, o, none⟩ = some (.int .i64 x.what) ∧ w.cell? ⟨b, o + 1, none⟩ = some (.string x.a) ∧ w.cell? ⟨b, o + 2, none⟩ = some (.string x.b) ∧ x.a.size ≤ maxLen ∧ x.b.size ≤ maxLen
abbrev SitesAt (w : World) (v : Value) (l : List Tab.St) : Prop := Row 3 SiteAt w v l
theorem SiteAt.kept {w w' : World} {b o : Nat} {x : Tab.St} (h : SiteAt w b o x) (k : Kept w w') : SiteAt w' b o x := ⟨k.cell h.1, k.cell h.2.1, k.cell h.2.2.1, h.2.2.2⟩
theorem sites_kept {w w' : World} {v : Value} {l : List Tab.St} (h : SitesAt w v l) (k : Kept w w') : SitesAt w' v l := h.mono fun _ _ _ r => r.kept k

end Go.Proofs.YthooiofaicdhgaaGreatDoor
