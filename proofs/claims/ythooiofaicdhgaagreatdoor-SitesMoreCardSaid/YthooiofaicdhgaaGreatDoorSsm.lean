/- The contracts of sites: the kind of a site, its sides, the site of a label, Sides, May. -/
import Derived.Test.YthooiofaicdhgaaGreatDoorSsp
import Derived.Deep.RegionLaw
import Derived.Deep.RegionWith
set_option linter.unusedSimpArgs false
set_option linter.unusedVariables false
set_option maxRecDepth 100000
namespace Go.Proofs.YthooiofaicdhgaaGreatDoor
open Go.ChangeShapes Go.WideShapes Go.ChangeAt Go.RowKit

theorem sidesOf_c (q : Int) (a b : ByteArray) (w : World) :
    Calls Tryz.prog 118 #[.agg #[.int .i64 q, .string a, .string b]] w fun e w' => e = .returned (.agg #[.string a, .string b]) ∧ Kept w w' := by
  go_enter Tryz.func118, Tryz.ntmps118
  go_wp2_with fail
  refine bodyPost_ret (v := .agg #[.string a, .string b]) (by simp [results, Tryz.results118, go_sem]) rfl ⟨rfl, ?_⟩
  first
    | exact ((Kept.refl w).alloc _).alloc _
    | exact (((Kept.refl w).alloc _).alloc _).setCell (by simp) _
    | exact ((((Kept.refl w).alloc _).alloc _).setCell (by simp) _).setCell (by simp) _

theorem swapped_c (a b : ByteArray) (w : World) :
    Calls Tryz.prog 166 #[.agg #[.string a, .string b]] w fun e w' => e = .returned (.agg #[.string b, .string a]) ∧ Kept w w' := by
  go_enter Tryz.func166, Tryz.ntmps166
  go_wp2_with fail
  refine bodyPost_ret (v := .agg #[.string b, .string a]) (by simp [results, Tryz.results166, go_sem]) rfl ⟨rfl, ?_⟩
  first
    | exact ((Kept.refl w).alloc _).alloc _
    | exact (((Kept.refl w).alloc _).alloc _).setCell (by simp) _
    | exact ((((Kept.refl w).alloc _).alloc _).setCell (by simp) _).setCell (by simp) _

theorem kindOf_c (q : Int) (a b : ByteArray) (w : World) :
    Calls Tryz.prog 119 #[.agg #[.int .i64 q, .string a, .string b]] w fun e w' => e = .returned (.int .i64 (Tab.kindS ⟨q, a, b⟩)) ∧ Kept w w' := by
  obtain ⟨ans, hans⟩ : ∃ k, k = Tab.kindS ⟨q, a, b⟩ := ⟨_, rfl⟩
  rw [← hans]
  have HA := Lib.hid hans
  clear hans
  by_cases h1 : 0 < q
  · by_cases h2 : q < 6
    · obtain rfl : ans = q := by rw [HA.out]; unfold Tab.kindS; exact if_pos ⟨h1, h2⟩
      go_enter Tryz.func119, Tryz.ntmps119
      go_wp2_with fail
      go_ret
      exact ⟨rfl, (Kept.refl w).alloc _⟩
    · obtain rfl : ans = 0 := by rw [HA.out]; unfold Tab.kindS; exact if_neg (fun h => h2 h.2)
      go_enter Tryz.func119, Tryz.ntmps119
      go_wp2_with fail
      go_ret
      exact ⟨rfl, (Kept.refl w).alloc _⟩
  · obtain rfl : ans = 0 := by rw [HA.out]; unfold Tab.kindS; exact if_neg (fun h => h1 h.1)
    go_enter Tryz.func119, Tryz.ntmps119
    go_wp2_with fail
    go_ret
    exact ⟨rfl, (Kept.refl w).alloc _⟩

/-- What find answers. -/
def FoundS (l : List Tab.St) (n : Int) (w : World) (e : Ending) (w' : World) : Prop :=
  (match Tab.siteAt l n with
    | none => e = .returned (.tuple #[.agg #[.int .i64 0, .string ⟨#[]⟩, .string ⟨#[]⟩], .agg #[.string ⟨#[]⟩, .string ⟨#[]⟩], .int .i64 3])
    | some x => e = .returned (.tuple #[.agg #[.int .i64 x.what, .string x.a, .string x.b], .agg #[.string (Tab.blamed n x), .string (Tab.other n x)], .int .i64 0])) ∧ Kept w w'

set_option maxHeartbeats 4000000 in
theorem findS0_c (l : List Tab.St) (a : Option Addr) (cp : Nat) (n : Int) (w : World) (hl : l.length ≤ 9223372036854775807) (hn1 : -9223372036854775808 ≤ n) (hn2 : n ≤ 9223372036854775807) (h : n = 0 ∨ (l.length : Int) < n ∨ n < -(l.length : Int)) :
    Calls Tryz.prog 122 #[.slice a l.length cp, .int .i64 n] w (FoundS l n w) := by
  have HN := Lib.hid (Tab.siteAt_none h)
  unfold FoundS
  rw [HN.out]
  rcases h with rfl | h | h
  · go_enter Tryz.func122, Tryz.ntmps122
    go_wp2_with fail
    refine bodyPost_ret (v := .tuple #[.agg #[.int .i64 0, .string ⟨#[]⟩, .string ⟨#[]⟩], .agg #[.string ⟨#[]⟩, .string ⟨#[]⟩], .int .i64 3]) (by simp [results, Tryz.results122, go_sem]) rfl ⟨rfl, ?_⟩
    first
      | exact ((Kept.refl w).alloc _).alloc _
      | exact (((((((Kept.refl w).alloc _).alloc _).setCell (by simp) _).setCell (by simp) _).setCell (by simp) _).setCell (by simp) _).setCell (by simp) _
  · have h0 : ¬ n = 0 := by omega
    go_enter Tryz.func122, Tryz.ntmps122
    go_wp2_with fail
    refine bodyPost_ret (v := .tuple #[.agg #[.int .i64 0, .string ⟨#[]⟩, .string ⟨#[]⟩], .agg #[.string ⟨#[]⟩, .string ⟨#[]⟩], .int .i64 3]) (by simp [results, Tryz.results122, go_sem]) rfl ⟨rfl, ?_⟩
    first
      | exact ((Kept.refl w).alloc _).alloc _
      | exact (((((((Kept.refl w).alloc _).alloc _).setCell (by simp) _).setCell (by simp) _).setCell (by simp) _).setCell (by simp) _).setCell (by simp) _
  · have h0 : ¬ n = 0 := by omega
    have h1 : ¬ (l.length : Int) < n := by omega
    go_enter Tryz.func122, Tryz.ntmps122
    go_wp2_with fail
    refine bodyPost_ret (v := .tuple #[.agg #[.int .i64 0, .string ⟨#[]⟩, .string ⟨#[]⟩], .agg #[.string ⟨#[]⟩, .string ⟨#[]⟩], .int .i64 3]) (by simp [results, Tryz.results122, go_sem]) rfl ⟨rfl, ?_⟩
    first
      | exact ((Kept.refl w).alloc _).alloc _
      | exact (((((((Kept.refl w).alloc _).alloc _).setCell (by simp) _).setCell (by simp) _).setCell (by simp) _).setCell (by simp) _).setCell (by simp) _

set_option maxHeartbeats 8000000 in
theorem findS1_c (l : List Tab.St) (a : Option Addr) (cp : Nat) (n : Int) (w : World) (h : SitesAt w (.slice a l.length cp) l) (hl : l.length ≤ 9223372036854775807) (h0 : ¬ n = 0) (h1 : ¬ (l.length : Int) < n) (h2 : ¬ n < -(l.length : Int)) :
    Calls Tryz.prog 122 #[.slice a l.length cp, .int .i64 n] w (FoundS l n w) := by
  obtain ⟨k, x, hk, hx, hs, hkn⟩ := Tab.siteAt_some h0 h1 h2
  unfold FoundS
  rw [hs]
  simp only
  obtain ⟨_, cp', e, g1, g2, g3⟩ := h
  injection e with e1 _ e3
  subst e1 e3
  unfold maxLen at g2
  obtain ⟨b, o, rfl, c0, c1, c2, z1, z2⟩ := g3 k x hx
  have hkI : (k : Int) < (l.length : Int) := by omega
  have HK := Lib.hid (((Kept.refl w).alloc (.cells #[.int .i64 0, .string ⟨#[]⟩, .string ⟨#[]⟩] 80)).alloc (.cells #[.string ⟨#[]⟩, .string ⟨#[]⟩] 138))
  have d0 := HK.out.cell c0
  have d1 := HK.out.cell c1
  have d2 := HK.out.cell c2
  have HSO := Lib.hid (fun W => sidesOf_c x.what x.a x.b W)
  have HSW := Lib.hid (fun W => swapped_c x.a x.b W)
  have c0' := c0
  have c1' := c1
  have c2' := c2
  clear hs hx g3 c0 c1 c2
  have hn1 : -9223372036854775808 ≤ n := by omega
  have hn2 : n ≤ 9223372036854775807 := by omega
  obtain ⟨W3, hW3⟩ : ∃ W3, ((w.alloc (.cells #[.int .i64 0, .string ⟨#[]⟩, .string ⟨#[]⟩] 80)).alloc (.cells #[.string ⟨#[]⟩, .string ⟨#[]⟩] 138)).alloc (.cells #[.int .i64 x.what, .string x.a, .string x.b] 80) = W3 := ⟨_, rfl⟩
  have B4 := Lib.hid (((Blk.new w 80 #[.int .i64 0, .string ⟨#[]⟩, .string ⟨#[]⟩]).alloc (.cells #[.string ⟨#[]⟩, .string ⟨#[]⟩] 138)).alloc (.cells #[.int .i64 x.what, .string x.a, .string x.b] 80))
  have b5 := (Blk.new (w.alloc (.cells #[.int .i64 0, .string ⟨#[]⟩, .string ⟨#[]⟩] 80)) 138 #[.string ⟨#[]⟩, .string ⟨#[]⟩]).alloc (.cells #[.int .i64 x.what, .string x.a, .string x.b] 80)
  have b7 := Blk.new ((w.alloc (.cells #[.int .i64 0, .string ⟨#[]⟩, .string ⟨#[]⟩] 80)).alloc (.cells #[.string ⟨#[]⟩, .string ⟨#[]⟩] 138)) 80 #[.int .i64 x.what, .string x.a, .string x.b]
  rw [World.size_alloc] at b5
  rw [World.size_alloc, World.size_alloc] at b7
  have B5 := Lib.hid b5
  have B7 := Lib.hid b7
  have HK3 := Lib.hid (HK.out.alloc (.cells #[.int .i64 x.what, .string x.a, .string x.b] 80))
  rw [hW3] at B4 B5 B7 HK3
  have q70 := B7.out.cell 0
  have q71 := B7.out.cell 1
  have q72 := B7.out.cell 2
  simp only [List.getElem?_toArray, List.getElem?_cons_zero, List.getElem?_cons_succ] at q70 q71 q72
  have HW3 := Lib.hid hW3
  clear hW3 b5 b7 z1 z2 c0' c1' c2'
  by_cases hp : 0 < n
  · obtain rfl : k = n.toNat - 1 := by rw [if_pos hp] at hkn; omega
    have hb : Tab.blamed n x = x.a := by unfold Tab.blamed; exact if_pos hp
    have ho : Tab.other n x = x.b := by unfold Tab.other; exact if_pos hp
    rw [hb, ho]
    clear hb ho hkn
    go_enter Tryz.func122, Tryz.ntmps122
    go_wp2_with fail
    rw [HW3.out]
    clear d0 d1 d2
    go_region_with (go_at_call 118; refine (HSO.out _).mono ?_; rintro e w2 ⟨rfl, k2⟩; have HK4 := Lib.hid (HK3.out.drew.trans k2); have h4 := B4.out.drew.kept k2; have h5 := B5.out.drew.kept k2; have h7 := B7.out.drew.kept k2; have p40 := h4.cell 0; have f40 := h4.frozen 0; have p41 := h4.cell 1; have f41 := h4.frozen 1; have p42 := h4.cell 2; have f42 := h4.frozen 2; have p50 := h5.cell 0; have f50 := h5.frozen 0; have p51 := h5.cell 1; have f51 := h5.frozen 1; have p70 := h7.cell 0; have p71 := h7.cell 1; have p72 := h7.cell 2; simp only [List.getElem?_toArray, List.getElem?_cons_zero, List.getElem?_cons_succ] at p40 p41 p42 p50 p51 p70 p71 p72)
    all_goals
      go_wp2_with fail
      have hK := ((((HK4.out.setCell (p := ⟨w.heap.size, 0, none⟩) (Nat.le_refl _) (.int .i64 x.what)).setCell (p := ⟨w.heap.size, 1, none⟩) (Nat.le_refl _) (.string x.a)).setCell (p := ⟨w.heap.size, 2, none⟩) (Nat.le_refl _) (.string x.b)).setCell (p := ⟨w.heap.size + 1, 0, none⟩) (Nat.le_succ _) (.string x.a)).setCell (p := ⟨w.heap.size + 1, 1, none⟩) (Nat.le_succ _) (.string x.b)
      exact bodyPost_ret (v := .tuple #[.agg #[.int .i64 x.what, .string x.a, .string x.b], .agg #[.string x.a, .string x.b], .int .i64 0]) (by simp [results, Tryz.results122, go_sem, p40, p41, p42, p50, p51]) rfl ⟨rfl, hK⟩
  · obtain rfl : k = (-n).toNat - 1 := by rw [if_neg hp] at hkn; omega
    have hb : Tab.blamed n x = x.b := by unfold Tab.blamed; exact if_neg hp
    have ho : Tab.other n x = x.a := by unfold Tab.other; exact if_neg hp
    rw [hb, ho]
    clear hb ho hkn
    go_enter Tryz.func122, Tryz.ntmps122
    go_wp2_with fail
    rw [HW3.out]
    clear d0 d1 d2
    go_region_with (first | (go_at_call 118; refine (HSO.out _).mono ?_; rintro e w1 ⟨rfl, k1⟩; have h7a := B7.out.drew.kept k1; have u70 := h7a.cell 0; have u71 := h7a.cell 1; have u72 := h7a.cell 2; simp only [List.getElem?_toArray, List.getElem?_cons_zero, List.getElem?_cons_succ] at u70 u71 u72) | (go_at_call 166; refine (HSW.out _).mono ?_; rintro e w2 ⟨rfl, k3⟩; have k2 := k1.trans k3; have HK4 := Lib.hid (HK3.out.drew.trans k2); have h4 := B4.out.drew.kept k2; have h5 := B5.out.drew.kept k2; have h7 := B7.out.drew.kept k2; have p40 := h4.cell 0; have f40 := h4.frozen 0; have p41 := h4.cell 1; have f41 := h4.frozen 1; have p42 := h4.cell 2; have f42 := h4.frozen 2; have p50 := h5.cell 0; have f50 := h5.frozen 0; have p51 := h5.cell 1; have f51 := h5.frozen 1; have p70 := h7.cell 0; have p71 := h7.cell 1; have p72 := h7.cell 2; simp only [List.getElem?_toArray, List.getElem?_cons_zero, List.getElem?_cons_succ] at p40 p41 p42 p50 p51 p70 p71 p72))
    all_goals
      go_wp2_with fail
      have hK := ((((HK4.out.setCell (p := ⟨w.heap.size, 0, none⟩) (Nat.le_refl _) (.int .i64 x.what)).setCell (p := ⟨w.heap.size, 1, none⟩) (Nat.le_refl _) (.string x.a)).setCell (p := ⟨w.heap.size, 2, none⟩) (Nat.le_refl _) (.string x.b)).setCell (p := ⟨w.heap.size + 1, 0, none⟩) (Nat.le_succ _) (.string x.b)).setCell (p := ⟨w.heap.size + 1, 1, none⟩) (Nat.le_succ _) (.string x.a)
      exact bodyPost_ret (v := .tuple #[.agg #[.int .i64 x.what, .string x.a, .string x.b], .agg #[.string x.b, .string x.a], .int .i64 0]) (by simp [results, Tryz.results122, go_sem, p40, p41, p42, p50, p51]) rfl ⟨rfl, hK⟩

end Go.Proofs.YthooiofaicdhgaaGreatDoor
