/- Sites in plain words: of which kind one is, whether one may be, which sides a label has, and whether it may be blamed. The contracts of sites: the kind of a site, its sides, the site of a label, Sides, May. The contracts of sites: Sides, May, whether a cast may be. -/
import Derived.Test.YtjdkegfckkbpeaaGreatDoorQz2
import Derived.Lib.Join
import Derived.Lib.ItoaNum
import Derived.Deep.RegionLaw
import Derived.Deep.RegionWith
import Derived.Test.YtjdkegfckkbpeaaGreatDoorQPso
import Derived.Test.YtjdkegfckkbpeaaGreatDoorQCgg
import Derived.StillTactics
set_option linter.unusedSimpArgs false
set_option linter.unusedVariables false
set_option maxRecDepth 100000
namespace Go.Proofs.YtjdkegfckkbpeaaGreatDoor
open Go.ChangeShapes Go.WideShapes Go.ChangeAt Go.RowKit
namespace Tab
structure St where
 what : Int
 a : ByteArray
 b : ByteArray
def kindS (x : St) : Int := if 0 < x.what ∧ x.what < 6 then x.what else 0
def isCast (t : List C) (a b : ByteArray) : Bool := goes t a b && !sub t a b
def dynB : ByteArray := ⟨#[63]⟩
def chkSite (t : List C) (x : St) : Int :=
 if kindS x = 0 then 2 else if kindS x = 1 then (if isCast t x.a x.b = true then 0 else 7) else if x.a = dynB ∧ x.b = dynB then 0 else 2
def chkSites (t : List C) : Nat → List St → Int × Int
 | _, [] => (0, 0)
 | i, x :: r => if chkSite t x = 0 then chkSites t (i + 1) r else (chkSite t x, (i : Int))
def sitesV (t : List C) (l : List St) : Int × Int := if 5000 < l.length then (12, 5000) else chkSites t 0 l
/-- The site of a label. -/
def siteAt (l : List St) (n : Int) : Option St := if 0 < n then l[(n - 1).toNat]? else if n < 0 then l[(-n - 1).toNat]? else none
/-- The side that a label blames, and the other one. -/
def blamed (n : Int) (x : St) : ByteArray := if 0 < n then x.a else x.b
def other (n : Int) (x : St) : ByteArray := if 0 < n then x.b else x.a
noncomputable def mayS (t : List C) (n : Int) (x : St) : Bool := if kindS x = 1 then !precise t (blamed n x) (other n x) else decide (0 < n)
def kindW (k : Int) : List UInt8 := if k = 1 then [99, 97, 115, 116] else if k = 2 then [103, 101, 116] else if k = 3 then [112, 117, 116] else if k = 4 then [99, 97, 108, 108] else if k = 5 then [111, 112] else [63]
def textS (n : Int) (x : St) : ByteArray :=
 ⟨(Lib.join [Lib.decDigits n.natAbs, (if 0 < n then [43] else [45]), kindW (kindS x), x.a.data.toList, [62], x.b.data.toList] [32]).toArray⟩
theorem kind_range (x : St) : 0 ≤ kindS x ∧ kindS x < 6 := by
 unfold kindS
 split <;> omega
theorem chk_iff {t : List C} : ∀ {i : Nat} {l : List St}, (chkSites t i l).1 = 0 ↔ ∀ x ∈ l, chkSite t x = 0
 | i, [] => by simp [chkSites]
 | i, x :: r => by
  unfold chkSites
  by_cases h : chkSite t x = 0
  ·rw [if_pos h, chk_iff]
   simp [h]
  ·rw [if_neg h]
   simp [h]
theorem chk_zero {t : List C} : ∀ {i : Nat} {l : List St}, (chkSites t i l).1 = 0 → chkSites t i l = (0, 0)
 | i, [], _ => rfl
 | i, x :: r, h => by
  unfold chkSites at h ⊢
  by_cases hx : chkSite t x = 0
  ·rw [if_pos hx] at h ⊢
   exact chk_zero h
  ·rw [if_neg hx] at h
   exact absurd h hx
/-- The list up to a place is without fault: what is behind decides. -/
theorem chk_drop {t : List C} : ∀ {i : Nat} {l : List St} (j : Nat), (∀ x ∈ l.take j, chkSite t x = 0) → j ≤ l.length → chkSites t i l = chkSites t (i + j) (l.drop j)
 | i, l, 0, _, _ => rfl
 | i, [], j + 1, _, h => by simp at h
 | i, x :: r, j + 1, h, hj => by
  conv => lhs; unfold chkSites
  rw [if_pos (h x (by simp)), chk_drop j (fun y hy => h y (by simp [hy])) (by simpa using hj), List.drop_succ_cons, show i + 1 + j = i + (j + 1) by omega]
theorem siteAt_up {l : List St} {n : Int} {x : St} (h0 : 0 < n) (h : l[(n - 1).toNat]? = some x) : siteAt l n = some x := by
 unfold siteAt; rw [if_pos h0, h]
theorem siteAt_down {l : List St} {n : Int} {x : St} (h0 : n < 0) (h : l[(-n - 1).toNat]? = some x) : siteAt l n = some x := by
 unfold siteAt; rw [if_neg (by omega), if_pos h0, h]
theorem siteAt_none {l : List St} {n : Int} (h : n = 0 ∨ (l.length : Int) < n ∨ n < -(l.length : Int)) : siteAt l n = none := by
 unfold siteAt
 split
 ·exact List.getElem?_eq_none (by omega)
 ·split
  ·exact List.getElem?_eq_none (by omega)
  ·rfl
theorem siteAt_some {l : List St} {n : Int} (h : ¬ n = 0) (h1 : ¬ (l.length : Int) < n) (h2 : ¬ n < -(l.length : Int)) : ∃ k x, k < l.length ∧ l[k]? = some x ∧ siteAt l n = some x ∧ (k : Int) = (if 0 < n then n else -n) - 1 := by
 by_cases h0 : 0 < n
 ·have hk : (n - 1).toNat < l.length := by omega
  exact ⟨_, _, hk, List.getElem?_eq_getElem hk, siteAt_up h0 (List.getElem?_eq_getElem hk), by rw [if_pos h0]; omega⟩
 ·have hk : (-n - 1).toNat < l.length := by omega
  exact ⟨_, _, hk, List.getElem?_eq_getElem hk, siteAt_down (by omega) (List.getElem?_eq_getElem hk), by rw [if_neg h0]; omega⟩
end Tab
def SiteAt (w : World) (b o : Nat) (x : Tab.St) : Prop :=
 w.cell? ⟨b, o, none⟩ = some (.int .i64 x.what) ∧ w.cell? ⟨b, o + 1, none⟩ = some (.string x.a) ∧ w.cell? ⟨b, o + 2, none⟩ = some (.string x.b) ∧ x.a.size ≤ maxLen ∧ x.b.size ≤ maxLen
abbrev SitesAt (w : World) (v : Value) (l : List Tab.St) : Prop := Row 3 SiteAt w v l
theorem SiteAt.kept {w w' : World} {b o : Nat} {x : Tab.St} (h : SiteAt w b o x) (k : Kept w w') : SiteAt w' b o x := ⟨k.cell h.1, k.cell h.2.1, k.cell h.2.2.1, h.2.2.2⟩
theorem sites_kept {w w' : World} {v : Value} {l : List Tab.St} (h : SitesAt w v l) (k : Kept w w') : SitesAt w' v l := h.mono fun _ _ _ r => r.kept k
end Go.Proofs.YtjdkegfckkbpeaaGreatDoor
namespace Go.Proofs.YtjdkegfckkbpeaaGreatDoor
open Go.ChangeShapes Go.WideShapes Go.ChangeAt Go.RowKit
theorem sidesOf_c (q : Int) (a b : ByteArray) (w : World) :
  Calls Tryz.prog 22 #[.agg #[.int .i64 q, .string a, .string b]] w fun e w' => e = .returned (.agg #[.string a, .string b]) ∧ Kept w w' := by
 go_enter Tryz.func22, Tryz.ntmps22
 go_wp2_with fail
 refine bodyPost_ret (v := .agg #[.string a, .string b]) (by simp [results, Tryz.results22, go_sem]) rfl ⟨rfl, ?_⟩
 first
  | exact ((Kept.refl w).alloc _).alloc _
  | exact (((Kept.refl w).alloc _).alloc _).setCell (by simp) _
  | exact ((((Kept.refl w).alloc _).alloc _).setCell (by simp) _).setCell (by simp) _
theorem swapped_c (a b : ByteArray) (w : World) :
  Calls Tryz.prog 39 #[.agg #[.string a, .string b]] w fun e w' => e = .returned (.agg #[.string b, .string a]) ∧ Kept w w' := by
 go_enter Tryz.func39, Tryz.ntmps39
 go_wp2_with fail
 refine bodyPost_ret (v := .agg #[.string b, .string a]) (by simp [results, Tryz.results39, go_sem]) rfl ⟨rfl, ?_⟩
 first
  | exact ((Kept.refl w).alloc _).alloc _
  | exact (((Kept.refl w).alloc _).alloc _).setCell (by simp) _
  | exact ((((Kept.refl w).alloc _).alloc _).setCell (by simp) _).setCell (by simp) _
theorem kindOf_c (q : Int) (a b : ByteArray) (w : World) :
  Calls Tryz.prog 23 #[.agg #[.int .i64 q, .string a, .string b]] w fun e w' => e = .returned (.int .i64 (Tab.kindS ⟨q, a, b⟩)) ∧ Kept w w' := by
 obtain ⟨ans, hans⟩ : ∃ k, k = Tab.kindS ⟨q, a, b⟩ := ⟨_, rfl⟩
 rw [← hans]
 have HA := Lib.hid hans
 clear hans
 by_cases h1 : 0 < q
 ·by_cases h2 : q < 6
  ·obtain rfl : ans = q := by rw [HA.out]; unfold Tab.kindS; exact if_pos ⟨h1, h2⟩
   go_enter Tryz.func23, Tryz.ntmps23
   go_wp2_with fail
   go_ret
   exact ⟨rfl, (Kept.refl w).alloc _⟩
  ·obtain rfl : ans = 0 := by rw [HA.out]; unfold Tab.kindS; exact if_neg (fun h => h2 h.2)
   go_enter Tryz.func23, Tryz.ntmps23
   go_wp2_with fail
   go_ret
   exact ⟨rfl, (Kept.refl w).alloc _⟩
 ·obtain rfl : ans = 0 := by rw [HA.out]; unfold Tab.kindS; exact if_neg (fun h => h1 h.1)
  go_enter Tryz.func23, Tryz.ntmps23
  go_wp2_with fail
  go_ret
  exact ⟨rfl, (Kept.refl w).alloc _⟩
/-- What find answers. -/
def FoundS (l : List Tab.St) (n : Int) (w : World) (e : Ending) (w' : World) : Prop :=
 (match Tab.siteAt l n with
  | none => e = .returned (.tuple #[.agg #[.int .i64 0, .string ⟨#[]⟩, .string ⟨#[]⟩], .agg #[.string ⟨#[]⟩, .string ⟨#[]⟩], .int .i64 3])
  | some x => e = .returned (.tuple #[.agg #[.int .i64 x.what, .string x.a, .string x.b], .agg #[.string (Tab.blamed n x), .string (Tab.other n x)], .int .i64 0])) ∧ Kept w w'
set_option maxHeartbeats 4000000 in
theorem findS0_c (l : List Tab.St) (a : Option Addr) (cp : Nat) (n : Int) (w : World) (hl : l.length ≤ 9223372036854775807) (hn1 : -9223372036854775808 ≤ n) (hn2 : n ≤ 9223372036854775807) (h : n = 0 ∨ (l.length : Int) < n ∨ n < -(l.length : Int)) :
  Calls Tryz.prog 26 #[.slice a l.length cp, .int .i64 n] w (FoundS l n w) := by
 have HN := Lib.hid (Tab.siteAt_none h)
 unfold FoundS
 rw [HN.out]
 rcases h with rfl | h | h
 ·go_enter Tryz.func26, Tryz.ntmps26
  go_wp2_with fail
  refine bodyPost_ret (v := .tuple #[.agg #[.int .i64 0, .string ⟨#[]⟩, .string ⟨#[]⟩], .agg #[.string ⟨#[]⟩, .string ⟨#[]⟩], .int .i64 3]) (by simp [results, Tryz.results26, go_sem]) rfl ⟨rfl, ?_⟩
  first
   | exact ((Kept.refl w).alloc _).alloc _
   | exact (((((((Kept.refl w).alloc _).alloc _).setCell (by simp) _).setCell (by simp) _).setCell (by simp) _).setCell (by simp) _).setCell (by simp) _
 ·have h0 : ¬ n = 0 := by omega
  go_enter Tryz.func26, Tryz.ntmps26
  go_wp2_with fail
  refine bodyPost_ret (v := .tuple #[.agg #[.int .i64 0, .string ⟨#[]⟩, .string ⟨#[]⟩], .agg #[.string ⟨#[]⟩, .string ⟨#[]⟩], .int .i64 3]) (by simp [results, Tryz.results26, go_sem]) rfl ⟨rfl, ?_⟩
  first
   | exact ((Kept.refl w).alloc _).alloc _
   | exact (((((((Kept.refl w).alloc _).alloc _).setCell (by simp) _).setCell (by simp) _).setCell (by simp) _).setCell (by simp) _).setCell (by simp) _
 ·have h0 : ¬ n = 0 := by omega
  have h1 : ¬ (l.length : Int) < n := by omega
  go_enter Tryz.func26, Tryz.ntmps26
  go_wp2_with fail
  refine bodyPost_ret (v := .tuple #[.agg #[.int .i64 0, .string ⟨#[]⟩, .string ⟨#[]⟩], .agg #[.string ⟨#[]⟩, .string ⟨#[]⟩], .int .i64 3]) (by simp [results, Tryz.results26, go_sem]) rfl ⟨rfl, ?_⟩
  first
   | exact ((Kept.refl w).alloc _).alloc _
   | exact (((((((Kept.refl w).alloc _).alloc _).setCell (by simp) _).setCell (by simp) _).setCell (by simp) _).setCell (by simp) _).setCell (by simp) _
set_option maxHeartbeats 8000000 in
theorem findS1_c (l : List Tab.St) (a : Option Addr) (cp : Nat) (n : Int) (w : World) (h : SitesAt w (.slice a l.length cp) l) (hl : l.length ≤ 9223372036854775807) (h0 : ¬ n = 0) (h1 : ¬ (l.length : Int) < n) (h2 : ¬ n < -(l.length : Int)) :
  Calls Tryz.prog 26 #[.slice a l.length cp, .int .i64 n] w (FoundS l n w) := by
 obtain ⟨k, x, hk, hx, hs, hkn⟩ := Tab.siteAt_some h0 h1 h2
 unfold FoundS
 rw [hs]
 simp only
 obtain ⟨_, cp', e, g1, g2, g3⟩ := h
 injection e with e1 _ e3
 subst e1 e3
 unfold maxLen at g2
 obtain ⟨b, o, rfl, c0, c1, c2, z1, z2⟩ := g3 k x hx
 have hkI : (k : Int) < (l.length : Int) := by omega
 have HK := Lib.hid (((Kept.refl w).alloc (.cells #[.int .i64 0, .string ⟨#[]⟩, .string ⟨#[]⟩] 49)).alloc (.cells #[.string ⟨#[]⟩, .string ⟨#[]⟩] 54))
 have d0 := HK.out.cell c0
 have d1 := HK.out.cell c1
 have d2 := HK.out.cell c2
 have HSO := Lib.hid (fun W => sidesOf_c x.what x.a x.b W)
 have HSW := Lib.hid (fun W => swapped_c x.a x.b W)
 have c0' := c0
 have c1' := c1
 have c2' := c2
 clear hs hx g3 c0 c1 c2
 have hn1 : -9223372036854775808 ≤ n := by omega
 have hn2 : n ≤ 9223372036854775807 := by omega
 obtain ⟨W3, hW3⟩ : ∃ W3, ((w.alloc (.cells #[.int .i64 0, .string ⟨#[]⟩, .string ⟨#[]⟩] 49)).alloc (.cells #[.string ⟨#[]⟩, .string ⟨#[]⟩] 54)).alloc (.cells #[.int .i64 x.what, .string x.a, .string x.b] 49) = W3 := ⟨_, rfl⟩
 have B4 := Lib.hid (((Blk.new w 49 #[.int .i64 0, .string ⟨#[]⟩, .string ⟨#[]⟩]).alloc (.cells #[.string ⟨#[]⟩, .string ⟨#[]⟩] 54)).alloc (.cells #[.int .i64 x.what, .string x.a, .string x.b] 49))
 have b5 := (Blk.new (w.alloc (.cells #[.int .i64 0, .string ⟨#[]⟩, .string ⟨#[]⟩] 49)) 54 #[.string ⟨#[]⟩, .string ⟨#[]⟩]).alloc (.cells #[.int .i64 x.what, .string x.a, .string x.b] 49)
 have b7 := Blk.new ((w.alloc (.cells #[.int .i64 0, .string ⟨#[]⟩, .string ⟨#[]⟩] 49)).alloc (.cells #[.string ⟨#[]⟩, .string ⟨#[]⟩] 54)) 49 #[.int .i64 x.what, .string x.a, .string x.b]
 rw [World.size_alloc] at b5
 rw [World.size_alloc, World.size_alloc] at b7
 have B5 := Lib.hid b5
 have B7 := Lib.hid b7
 have HK3 := Lib.hid (HK.out.alloc (.cells #[.int .i64 x.what, .string x.a, .string x.b] 49))
 rw [hW3] at B4 B5 B7 HK3
 have q70 := B7.out.cell 0
 have q71 := B7.out.cell 1
 have q72 := B7.out.cell 2
 simp only [List.getElem?_toArray, List.getElem?_cons_zero, List.getElem?_cons_succ] at q70 q71 q72
 have HW3 := Lib.hid hW3
 clear hW3 b5 b7 z1 z2 c0' c1' c2'
 by_cases hp : 0 < n
 ·obtain rfl : k = n.toNat - 1 := by rw [if_pos hp] at hkn; omega
  have hb : Tab.blamed n x = x.a := by unfold Tab.blamed; exact if_pos hp
  have ho : Tab.other n x = x.b := by unfold Tab.other; exact if_pos hp
  rw [hb, ho]
  clear hb ho hkn
  go_enter Tryz.func26, Tryz.ntmps26
  go_wp2_with fail
  rw [HW3.out]
  clear d0 d1 d2
  go_region_with (go_at_call 22; refine (HSO.out _).mono ?_; rintro e w2 ⟨rfl, k2⟩; have HK4 := Lib.hid (HK3.out.drew.trans k2); have h4 := B4.out.drew.kept k2; have h5 := B5.out.drew.kept k2; have h7 := B7.out.drew.kept k2; have p40 := h4.cell 0; have f40 := h4.frozen 0; have p41 := h4.cell 1; have f41 := h4.frozen 1; have p42 := h4.cell 2; have f42 := h4.frozen 2; have p50 := h5.cell 0; have f50 := h5.frozen 0; have p51 := h5.cell 1; have f51 := h5.frozen 1; have p70 := h7.cell 0; have p71 := h7.cell 1; have p72 := h7.cell 2; simp only [List.getElem?_toArray, List.getElem?_cons_zero, List.getElem?_cons_succ] at p40 p41 p42 p50 p51 p70 p71 p72)
  all_goals
   go_wp2_with fail
   have hK := ((((HK4.out.setCell (p := ⟨w.heap.size, 0, none⟩) (Nat.le_refl _) (.int .i64 x.what)).setCell (p := ⟨w.heap.size, 1, none⟩) (Nat.le_refl _) (.string x.a)).setCell (p := ⟨w.heap.size, 2, none⟩) (Nat.le_refl _) (.string x.b)).setCell (p := ⟨w.heap.size + 1, 0, none⟩) (Nat.le_succ _) (.string x.a)).setCell (p := ⟨w.heap.size + 1, 1, none⟩) (Nat.le_succ _) (.string x.b)
   exact bodyPost_ret (v := .tuple #[.agg #[.int .i64 x.what, .string x.a, .string x.b], .agg #[.string x.a, .string x.b], .int .i64 0]) (by simp [results, Tryz.results26, go_sem, p40, p41, p42, p50, p51]) rfl ⟨rfl, hK⟩
 ·obtain rfl : k = (-n).toNat - 1 := by rw [if_neg hp] at hkn; omega
  have hb : Tab.blamed n x = x.b := by unfold Tab.blamed; exact if_neg hp
  have ho : Tab.other n x = x.a := by unfold Tab.other; exact if_neg hp
  rw [hb, ho]
  clear hb ho hkn
  go_enter Tryz.func26, Tryz.ntmps26
  go_wp2_with fail
  rw [HW3.out]
  clear d0 d1 d2
  go_region_with (first | (go_at_call 22; refine (HSO.out _).mono ?_; rintro e w1 ⟨rfl, k1⟩; have h7a := B7.out.drew.kept k1; have u70 := h7a.cell 0; have u71 := h7a.cell 1; have u72 := h7a.cell 2; simp only [List.getElem?_toArray, List.getElem?_cons_zero, List.getElem?_cons_succ] at u70 u71 u72) | (go_at_call 39; refine (HSW.out _).mono ?_; rintro e w2 ⟨rfl, k3⟩; have k2 := k1.trans k3; have HK4 := Lib.hid (HK3.out.drew.trans k2); have h4 := B4.out.drew.kept k2; have h5 := B5.out.drew.kept k2; have h7 := B7.out.drew.kept k2; have p40 := h4.cell 0; have f40 := h4.frozen 0; have p41 := h4.cell 1; have f41 := h4.frozen 1; have p42 := h4.cell 2; have f42 := h4.frozen 2; have p50 := h5.cell 0; have f50 := h5.frozen 0; have p51 := h5.cell 1; have f51 := h5.frozen 1; have p70 := h7.cell 0; have p71 := h7.cell 1; have p72 := h7.cell 2; simp only [List.getElem?_toArray, List.getElem?_cons_zero, List.getElem?_cons_succ] at p40 p41 p42 p50 p51 p70 p71 p72))
  all_goals
   go_wp2_with fail
   have hK := ((((HK4.out.setCell (p := ⟨w.heap.size, 0, none⟩) (Nat.le_refl _) (.int .i64 x.what)).setCell (p := ⟨w.heap.size, 1, none⟩) (Nat.le_refl _) (.string x.a)).setCell (p := ⟨w.heap.size, 2, none⟩) (Nat.le_refl _) (.string x.b)).setCell (p := ⟨w.heap.size + 1, 0, none⟩) (Nat.le_succ _) (.string x.b)).setCell (p := ⟨w.heap.size + 1, 1, none⟩) (Nat.le_succ _) (.string x.a)
   exact bodyPost_ret (v := .tuple #[.agg #[.int .i64 x.what, .string x.a, .string x.b], .agg #[.string x.b, .string x.a], .int .i64 0]) (by simp [results, Tryz.results26, go_sem, p40, p41, p42, p50, p51]) rfl ⟨rfl, hK⟩
end Go.Proofs.YtjdkegfckkbpeaaGreatDoor
namespace Go.Proofs.YtjdkegfckkbpeaaGreatDoor
open Go.ChangeShapes Go.WideShapes Go.ChangeAt Go.RowKit
theorem findSt_c (l : List Tab.St) (a : Option Addr) (cp : Nat) (n : Int) (w : World) (h : SitesAt w (.slice a l.length cp) l) (hn1 : -9223372036854775808 ≤ n) (hn2 : n ≤ 9223372036854775807) :
  Calls Tryz.prog 26 #[.slice a l.length cp, .int .i64 n] w (FoundS l n w) := by
 have hl : l.length ≤ 9223372036854775807 := by
  obtain ⟨_, c, e, h1, h2, _⟩ := h
  unfold maxLen at h2
  omega
 by_cases h0 : n = 0
 ·exact findS0_c l a cp n w hl hn1 hn2 (.inl h0)
 ·by_cases h1 : (l.length : Int) < n
  ·exact findS0_c l a cp n w hl hn1 hn2 (.inr (.inl h1))
  ·by_cases h2 : n < -(l.length : Int)
   ·exact findS0_c l a cp n w hl hn1 hn2 (.inr (.inr h2))
   ·exact findS1_c l a cp n w h hl h0 h1 h2
/-- The two boxes that Sides, May and Text keep. -/
def bxA (w : World) (q : Int) (a b c d : ByteArray) : World := (w.alloc (.cells #[.int .i64 q, .string a, .string b] 49)).alloc (.cells #[.string c, .string d] 54)
theorem bx_kept {w w1 : World} (k : Kept w w1) (q : Int) (a b c d : ByteArray) : Kept w (bxA w1 q a b c d) := (k.alloc _).alloc _
theorem bx_ends (w : World) (q : Int) (a b c d : ByteArray) : Blk (bxA w q a b c d) w.heap.size 49 #[.int .i64 q, .string a, .string b] ∧ Blk (bxA w q a b c d) (w.heap.size + 1) 54 #[.string c, .string d] := by
 refine ⟨(Blk.new w _ _).alloc _, ?_⟩
 have h := Blk.new (w.alloc (.cells #[.int .i64 q, .string a, .string b] 49)) 54 #[.string c, .string d]
 rw [World.size_alloc] at h
 exact h
def sidesV (l : List Tab.St) (n : Int) : Value := match Tab.siteAt l n with
 | none => .tuple #[.string ⟨#[]⟩, .string ⟨#[]⟩, .int .i64 3]
 | some x => .tuple #[.string (Tab.blamed n x), .string (Tab.other n x), .int .i64 0]
set_option maxHeartbeats 4000000 in
theorem sidesS_c (l : List Tab.St) (a : Option Addr) (cp : Nat) (n : Int) (w : World) (h : SitesAt w (.slice a l.length cp) l) (hn1 : -9223372036854775808 ≤ n) (hn2 : n ≤ 9223372036854775807) :
  Calls Tryz.prog 12 #[.slice a l.length cp, .int .i64 n] w fun e w' => e = .returned (sidesV l n) ∧ Kept w w' := by
 have HF := Lib.hid (findSt_c l a cp n w h hn1 hn2)
 unfold FoundS at HF
 clear h
 cases hs : Tab.siteAt l n with
 | none =>
  rw [hs] at HF
  simp only at HF
  rw [show sidesV l n = .tuple #[.string ⟨#[]⟩, .string ⟨#[]⟩, .int .i64 3] by unfold sidesV; rw [hs]]
  clear hs
  go_enter Tryz.func12, Tryz.ntmps12
  go_wp2_with fail
  refine HF.out.mono ?_
  rintro e w1 ⟨rfl, k1⟩
  have HK := Lib.hid (bx_kept k1 0 ⟨#[]⟩ ⟨#[]⟩ ⟨#[]⟩ ⟨#[]⟩)
  obtain ⟨W3, hW3⟩ : ∃ W3, bxA w1 0 ⟨#[]⟩ ⟨#[]⟩ ⟨#[]⟩ ⟨#[]⟩ = W3 := ⟨_, rfl⟩
  have B8 := (bx_ends w1 0 ⟨#[]⟩ ⟨#[]⟩ ⟨#[]⟩ ⟨#[]⟩).2
  rw [hW3] at HK B8
  have p0 := B8.cell 0
  have p1 := B8.cell 1
  simp only [List.getElem?_toArray, List.getElem?_cons_zero, List.getElem?_cons_succ] at p0 p1
  have HW3 := Lib.hid hW3
  clear hW3 B8 k1
  go_wp2_with fail
  rw [show (w1.alloc (.cells #[.int .i64 0, .string ⟨#[]⟩, .string ⟨#[]⟩] 49)).alloc (.cells #[.string ⟨#[]⟩, .string ⟨#[]⟩] 54) = W3 from HW3.out]
  go_still (by kernel_rfl)
  go_wp2_with fail
  exact bodyPost_ret (v := .tuple #[.string ⟨#[]⟩, .string ⟨#[]⟩, .int .i64 3]) (by simp [results, Tryz.results12, go_sem]) rfl ⟨rfl, HK.out.drew⟩
 | some x =>
  rw [hs] at HF
  simp only at HF
  rw [show sidesV l n = .tuple #[.string (Tab.blamed n x), .string (Tab.other n x), .int .i64 0] by unfold sidesV; rw [hs]]
  clear hs
  generalize Tab.blamed n x = c at HF ⊢
  generalize Tab.other n x = d at HF ⊢
  go_enter Tryz.func12, Tryz.ntmps12
  go_wp2_with fail
  refine HF.out.mono ?_
  rintro e w1 ⟨rfl, k1⟩
  have HK := Lib.hid (bx_kept k1 x.what x.a x.b c d)
  obtain ⟨W3, hW3⟩ : ∃ W3, bxA w1 x.what x.a x.b c d = W3 := ⟨_, rfl⟩
  have B8 := (bx_ends w1 x.what x.a x.b c d).2
  rw [hW3] at HK B8
  have p0 := B8.cell 0
  have p1 := B8.cell 1
  simp only [List.getElem?_toArray, List.getElem?_cons_zero, List.getElem?_cons_succ] at p0 p1
  have HW3 := Lib.hid hW3
  clear hW3 B8 k1
  go_wp2_with fail
  rw [show (w1.alloc (.cells #[.int .i64 x.what, .string x.a, .string x.b] 49)).alloc (.cells #[.string c, .string d] 54) = W3 from HW3.out]
  go_still (by kernel_rfl)
  go_wp2_with fail
  exact bodyPost_ret (v := .tuple #[.string c, .string d, .int .i64 0]) (by simp [results, Tryz.results12, go_sem]) rfl ⟨rfl, HK.out.drew⟩
noncomputable def mayV (t : List Tab.C) (l : List Tab.St) (n : Int) : Value := match Tab.siteAt l n with
 | none => .tuple #[.bool false, .int .i64 3]
 | some x => .tuple #[.bool (Tab.mayS t n x), .int .i64 0]
set_option maxHeartbeats 4000000 in
theorem mayS_c (t : List Tab.C) (ta : Option Addr) (tc : Nat) (l : List Tab.St) (a : Option Addr) (cp : Nat) (n : Int) (w : World) (hTb : Tb w) (ht : TabAt w (.slice ta t.length tc) t) (hS : Small t) (h : SitesAt w (.slice a l.length cp) l) (hn1 : -9223372036854775808 ≤ n) (hn2 : n ≤ 9223372036854775807) :
  Calls Tryz.prog 14 #[.slice ta t.length tc, .slice a l.length cp, .int .i64 n] w fun e w' => e = .returned (mayV t l n) ∧ Kept w w' := by
 have HF := Lib.hid (findSt_c l a cp n w h hn1 hn2)
 have HP := Lib.hid (fun (s u : ByteArray) (W : World) (k : Kept w W) => precise_cc t ta tc s u W (hTb.kept k) (tab_kept ht k) hS)
 have HZ := Lib.hid (fun x (hx : Tab.siteAt l n = some x) => show x.a.size ≤ maxLen ∧ x.b.size ≤ maxLen by
  have : x ∈ l := by
   unfold Tab.siteAt at hx
   split at hx
   ·exact List.mem_of_getElem? hx
   ·split at hx
    ·exact List.mem_of_getElem? hx
    ·cases hx
  obtain ⟨i, hi⟩ := List.getElem?_of_mem this
  obtain ⟨_, _, e, _, _, hat⟩ := h
  obtain ⟨_, _, _, hc⟩ := hat i x hi
  exact hc.2.2.2)
 unfold FoundS at HF
 clear h hTb ht hS
 cases hs : Tab.siteAt l n with
 | none =>
  rw [hs] at HF
  simp only at HF
  rw [show mayV t l n = .tuple #[.bool false, .int .i64 3] by unfold mayV; rw [hs]]
  clear hs HZ
  go_enter Tryz.func14, Tryz.ntmps14
  go_wp2_with fail
  refine HF.out.mono ?_
  rintro e w1 ⟨rfl, k1⟩
  have HK := Lib.hid (bx_kept k1 0 ⟨#[]⟩ ⟨#[]⟩ ⟨#[]⟩ ⟨#[]⟩)
  clear k1
  go_wp2_with fail
  go_ret2
  exact ⟨rfl, HK.out⟩
 | some x =>
  rw [hs] at HF
  simp only at HF
  rw [show mayV t l n = .tuple #[.bool (Tab.mayS t n x), .int .i64 0] by unfold mayV; rw [hs]]
  obtain ⟨z1, z2⟩ := HZ.out x hs
  have HKD := Lib.hid (fun W => kindOf_c x.what x.a x.b W)
  obtain ⟨q, hq⟩ : ∃ q, Tab.kindS ⟨x.what, x.a, x.b⟩ = q := ⟨_, rfl⟩
  have hq' : Tab.kindS x = q := hq
  rw [hq] at HKD
  have HM := Lib.hid (show Tab.mayS t n x = if q = 1 then !Tab.precise t (Tab.blamed n x) (Tab.other n x) else decide (0 < n) by unfold Tab.mayS; rw [hq'])
  have zc : (Tab.blamed n x).size ≤ maxLen := by unfold Tab.blamed; split <;> assumption
  have zd : (Tab.other n x).size ≤ maxLen := by unfold Tab.other; split <;> assumption
  have HPC := Lib.hid (fun W (k : Kept w W) => HP.out (Tab.blamed n x) (Tab.other n x) W k zc zd)
  clear hs HZ z1 z2 zc zd hq hq' HP
  generalize Tab.mayS t n x = ans at HM ⊢
  generalize Tab.precise t (Tab.blamed n x) (Tab.other n x) = pr at HM HPC
  generalize Tab.blamed n x = c at HF HPC
  generalize Tab.other n x = d at HF HPC
  by_cases h1 : q = 1
  ·subst h1
   obtain rfl : ans = !pr := by rw [HM.out, if_pos rfl]
   go_enter Tryz.func14, Tryz.ntmps14
   go_wp2_with fail
   refine HF.out.mono ?_
   rintro e w1 ⟨rfl, k1⟩
   have HK := Lib.hid (bx_kept k1 x.what x.a x.b c d)
   obtain ⟨W3, hW3⟩ : ∃ W3, bxA w1 x.what x.a x.b c d = W3 := ⟨_, rfl⟩
   obtain ⟨b8, b9⟩ := bx_ends w1 x.what x.a x.b c d
   rw [hW3] at HK b8 b9
   have B9 := Lib.hid b9
   have p0 := b8.cell 0
   have p1 := b8.cell 1
   have p2 := b8.cell 2
   simp only [List.getElem?_toArray, List.getElem?_cons_zero, List.getElem?_cons_succ] at p0 p1 p2
   have HW3 := Lib.hid hW3
   clear hW3 b8 b9 k1
   go_wp2_with fail
   refine (HKD.out _).mono ?_
   rintro e w2 ⟨rfl, k2⟩
   rw [show (w1.alloc (.cells #[.int .i64 x.what, .string x.a, .string x.b] 49)).alloc (.cells #[.string c, .string d] 54) = W3 from HW3.out] at k2
   have HK2 := Lib.hid (HK.out.trans k2)
   have B9' := B9.out.kept k2
   have r0 := B9'.cell 0
   have r1 := B9'.cell 1
   simp only [List.getElem?_toArray, List.getElem?_cons_zero, List.getElem?_cons_succ] at r0 r1
   have HPD := Lib.hid (HPC.out w2 HK2.out)
   clear p0 p1 p2 B9' k2
   go_wp2_with fail
   refine HPD.out.mono ?_
   rintro e w3 ⟨rfl, k3⟩
   have HK3 := Lib.hid (HK2.out.trans k3)
   clear k3
   go_wp2_with fail
   go_ret2
   exact ⟨rfl, HK3.out⟩
  ·have hq1 : (q == 1) = false := by simpa using h1
   obtain rfl : ans = decide (0 < n) := by rw [HM.out, if_neg h1]
   go_enter Tryz.func14, Tryz.ntmps14
   go_wp2_with fail
   refine HF.out.mono ?_
   rintro e w1 ⟨rfl, k1⟩
   have HK := Lib.hid (bx_kept k1 x.what x.a x.b c d)
   obtain ⟨W3, hW3⟩ : ∃ W3, bxA w1 x.what x.a x.b c d = W3 := ⟨_, rfl⟩
   obtain ⟨b8, b9⟩ := bx_ends w1 x.what x.a x.b c d
   rw [hW3] at HK b8 b9
   have p0 := b8.cell 0
   have p1 := b8.cell 1
   have p2 := b8.cell 2
   simp only [List.getElem?_toArray, List.getElem?_cons_zero, List.getElem?_cons_succ] at p0 p1 p2
   have HW3 := Lib.hid hW3
   clear hW3 b8 b9 k1
   go_wp2_with fail
   refine (HKD.out _).mono ?_
   rintro e w2 ⟨rfl, k2⟩
   rw [show (w1.alloc (.cells #[.int .i64 x.what, .string x.a, .string x.b] 49)).alloc (.cells #[.string c, .string d] 54) = W3 from HW3.out] at k2
   have HK2 := Lib.hid (HK.out.trans k2)
   clear p0 p1 p2 k2
   go_wp2_with fail
   go_ret2
   exact ⟨rfl, HK2.out⟩
theorem isCast_c (t : List Tab.C) (ta : Option Addr) (tc : Nat) (a b : ByteArray) (w : World) (hTb : Tb w) (ht : TabAt w (.slice ta t.length tc) t) (hS : Small t) (ha : a.size ≤ maxLen) (hb : b.size ≤ maxLen) :
  Calls Tryz.prog 24 #[.slice ta t.length tc, .agg #[.string a, .string b]] w fun e w' => e = .returned (.bool (Tab.isCast t a b)) ∧ Kept w w' := by
 have HG := Lib.hid (fun (W : World) (k : Kept w W) => goes_cc t ta tc a b W (hTb.kept k) (tab_kept ht k) hS ha hb)
 have HB := Lib.hid (fun (W : World) (k : Kept w W) => sub_c t ta tc a b W (hTb.kept k) (tab_kept ht k) hS)
 unfold Tab.isCast
 generalize Tab.goes t a b = g at HG ⊢
 generalize Tab.sub t a b = s at HB ⊢
 have B3 := Lib.hid (Blk.new w 54 #[.string a, .string b])
 have HK := Lib.hid ((Kept.refl w).alloc (.cells #[.string a, .string b] 54))
 obtain ⟨W1, hW1⟩ : ∃ W1, w.alloc (.cells #[.string a, .string b] 54) = W1 := ⟨_, rfl⟩
 rw [hW1] at B3 HK
 have p0 := B3.out.cell 0
 have p1 := B3.out.cell 1
 simp only [List.getElem?_toArray, List.getElem?_cons_zero, List.getElem?_cons_succ] at p0 p1
 have HG1 := Lib.hid (HG.out W1 HK.out)
 have HW1 := Lib.hid hW1
 clear hTb ht hS HG hW1
 go_enter Tryz.func24, Tryz.ntmps24
 go_wp2_with fail
 rw [show w.alloc (.cells #[.string a, .string b] 54) = W1 from HW1.out]
 go_wp2_with fail
 refine HG1.out.mono ?_
 rintro e w2 ⟨rfl, k2⟩
 have HK2 := Lib.hid (HK.out.trans k2)
 have B3' := B3.out.kept k2
 have r0 := B3'.cell 0
 have r1 := B3'.cell 1
 simp only [List.getElem?_toArray, List.getElem?_cons_zero, List.getElem?_cons_succ] at r0 r1
 have HB2 := Lib.hid (HB.out w2 HK2.out)
 clear p0 p1 k2 B3' HB
 cases g with
 | false =>
  go_wp2_with fail
  go_ret
  exact ⟨rfl, HK2.out⟩
 | true =>
  go_wp2_with fail
  refine HB2.out.mono ?_
  rintro e w3 ⟨rfl, k3⟩
  have HK3 := Lib.hid (HK2.out.trans k3)
  clear k3
  cases s with
  | false =>
   go_wp2_with fail
   go_ret
   exact ⟨rfl, HK3.out⟩
  | true =>
   go_wp2_with fail
   go_ret
   exact ⟨rfl, HK3.out⟩
end Go.Proofs.YtjdkegfckkbpeaaGreatDoor
