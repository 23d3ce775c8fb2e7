/- The law ConsistGreatest: its walk over any table and any pairs. -/
import Derived.Test.YthooiofaicdhgaaGreatDoorKCga
import Derived.Test.YthooiofaicdhgaaGreatDoorKLgt
import Derived.StillTailTactics
import Derived.Deep.RegionHeld3
set_option linter.unusedSimpArgs false
set_option linter.unusedVariables false
set_option maxRecDepth 100000
namespace Go.Proofs.YthooiofaicdhgaaGreatDoor
open Go.ChangeShapes Go.WideShapes Go.ChangeAt Go.RowKit
theorem small_of_shortG {t : List Tab.C} (h : t.length ≤ 9 ∧ ∀ c ∈ t, ShortC c) : Small t :=
 ⟨by omega, fun c hc => by have := (h.2 c hc).1; omega, fun c hc => by have := (h.2 c hc).2.1; omega, fun c hc m hm => by have := (h.2 c hc).2.2 m hm; unfold ShortM at this; omega⟩
theorem row_keptG {w w' : World} {base k n : Nat} {e : TypeId} {v : Value} {xs : List Value} (h : w.ownsRow base e k v n xs) (q : Kept w w') : w'.ownsRow base e k v n xs :=
 owns_only (S := fun _ => False) h (Only.of_kept q) (fun _ _ h => h)
theorem row_geG {w : World} {base k n : Nat} {e : TypeId} {v : Value} {xs : List Value} (h : w.ownsRow base e k v n xs) {g : Nat} (hg : v.ownBlock = some g) : base ≤ g := by
 rcases h.2 with ⟨rfl, _⟩ | ⟨g', cap, cur, rfl, h1, _⟩
 ·cases hg
 ·cases hg; exact h1
/-- The pairs so far of those that go. -/
def AllS (t : List Tab.C) (A : List (Nat × Nat)) (D : Nat → Nat → Prop) : Prop := ∀ a b, (a, b) ∈ A ↔ D a b ∧ Tab.goes t (Tab.nth t a).name (Tab.nth t b).name = true
theorem AllS.yes {t : List Tab.C} {A : List (Nat × Nat)} {D D' : Nat → Nat → Prop} {i k : Nat} (h : AllS t A D) (hg : Tab.goes t (Tab.nth t i).name (Tab.nth t k).name = true) (hd : ∀ a b, D' a b ↔ D a b ∨ (a = i ∧ b = k)) : AllS t (A ++ [(i, k)]) D' := by
 intro a b
 rw [List.mem_append, h a b, hd a b, List.mem_singleton]
 constructor
 ·rintro (⟨h1, h2⟩ | e)
  ·exact ⟨.inl h1, h2⟩
  ·cases e; exact ⟨.inr ⟨rfl, rfl⟩, hg⟩
 ·rintro ⟨h1 | ⟨rfl, rfl⟩, h2⟩
  ·exact .inl ⟨h1, h2⟩
  ·exact .inr rfl
theorem AllS.no {t : List Tab.C} {A : List (Nat × Nat)} {D D' : Nat → Nat → Prop} {i k : Nat} (h : AllS t A D) (hg : Tab.goes t (Tab.nth t i).name (Tab.nth t k).name = false) (hd : ∀ a b, D' a b ↔ D a b ∨ (a = i ∧ b = k)) : AllS t A D' := by
 intro a b
 rw [h a b, hd a b]
 constructor
 ·rintro ⟨h1, h2⟩
  exact ⟨.inl h1, h2⟩
 ·rintro ⟨h1 | ⟨rfl, rfl⟩, h2⟩
  ·exact ⟨h1, h2⟩
  ·rw [hg] at h2; cases h2
theorem AllS.congr {t : List Tab.C} {A : List (Nat × Nat)} {D D' : Nat → Nat → Prop} (h : AllS t A D) (hd : ∀ a b, D' a b ↔ D a b) : AllS t A D' := fun a b => by rw [h a b, hd a b]
set_option maxHeartbeats 32000000 in
theorem greatest7_c (t : List Tab.C) (a : Option Addr) (cp : Nat) (l : List (Int × Int)) (la : Option Addr) (lc : Nat) (w : World) (hTb : Tb w) (h : TabAt w (.slice a t.length cp) t) (hl : PrsI w (.slice la l.length lc) l) :
  Calls Tryz.prog 5 #[.slice a t.length cp, .slice la l.length lc] w fun e w' => e = .returned (.bool true) ∧ Kept w w' := by
 have HTB := Lib.hid hTb
 have HT := Lib.hid h
 have HLI := Lib.hid hl
 have hlm : l.length ≤ 9223372036854775807 := by
  obtain ⟨_, c, e, h1, h2, _⟩ := hl
  unfold maxLen at h2
  omega
 obtain ⟨i0, hi, hz0, hzz1, hzz2⟩ := info_parts info_prN
 clear hTb h hl
 go_enter Tryz.func5, Tryz.ntmps5
 go_wp2_with fail
 refine (known7_c w HTB.out).mono ?_
 rintro e w1 ⟨rfl, k1⟩
 have HK1 := Lib.hid k1
 have HL := Lib.hid (long_c t (.slice a t.length cp) w1 (tab_kept HT.out k1))
 clear k1
 go_wp2_with fail
 refine HL.out.mono ?_
 rintro e w2 ⟨⟨lb, rfl, hsh⟩, k2⟩
 have HK2 := Lib.hid (HK1.out.trans k2)
 clear k2 HL
 cases lb with
 | true =>
  clear hsh
  go_wp2_with fail
  go_ret
  exact ⟨rfl, HK2.out⟩
 | false =>
  have HSH := Lib.hid (hsh rfl)
  have HSM := Lib.hid (small_of_shortG HSH.out)
  clear hsh
  by_cases hl0 : t.length = 0
  ·have hl0I : (t.length : Int) = 0 := by omega
   go_wp2_with fail
   go_ret
   exact ⟨rfl, HK2.out⟩
  ·have hl0I : ((t.length : Int) == 0) = false := by simpa using hl0
   have HC := Lib.hid (check_c t a cp w2 (HTB.out.kept HK2.out) (tab_kept HT.out HK2.out) HSM.out)
   obtain ⟨fe, fa, hfe⟩ : ∃ fe fa, Tab.check t = (fe, fa) := ⟨_, _, rfl⟩
   rw [hfe] at HC
   dsimp only at HC
   have HFE := Lib.hid hfe
   clear hfe
   go_wp2_with fail
   refine HC.out.mono ?_
   rintro e w3 ⟨rfl, k3⟩
   have HK3 := Lib.hid (HK2.out.trans k3)
   clear k3 HC
   by_cases z1 : fe = 0
   ·by_cases z2 : fa = 0
    ·subst z1 z2
     have HO := Lib.hid (show Tab.ok t = true by unfold Tab.ok; rw [HFE.out]; rfl)
     clear HFE
     by_cases hl30 : (30 : Int) < (l.length : Int)
     ·go_wp2_with fail
      go_ret
      exact ⟨rfl, HK3.out⟩
     ·have hn9 : t.length ≤ 9 := HSH.out.1
      have hnp : 0 < t.length := by omega
      have HNM := Lib.hid (fun (i : Nat) (hi : i < t.length) => (show t[i]? = some (Tab.nth t i) from Tab.of_nth hi))
      have HPK := Lib.hid (fun (x : Int) (W : World) (p : -9223372036854775808 ≤ x) (q : x ≤ 9223372036854775807) => pick_c x t.length W hnp (by omega) p q)
      have HGO := Lib.hid (fun (s u : ByteArray) (hs : s.size ≤ maxLen) (hu : u.size ≤ maxLen) (W : World) (k : Kept w W) => goes_cc t a cp s u W (HTB.out.kept k) (tab_kept HT.out k) HSM.out hs hu)
      have HSU := Lib.hid (fun (s u : ByteArray) (W : World) (k : Kept w W) => sub_c t a cp s u W (HTB.out.kept k) (tab_kept HT.out k) HSM.out)
      have HCL := Lib.hid (fun (L : List (Nat × Nat)) (va : Option Addr) (vc p1 p2 : Nat) (W : World) (k : Kept w W) (hp : PairsAt W (.slice va L.length vc) L) (hL : Inside t L) (h1 : p1 < t.length) (h2 : p2 < t.length) => closed_c t a cp L va vc p1 p2 W (HTB.out.kept k) (tab_kept HT.out k) HSM.out hp hL h1 h2)
      have HNS := Lib.hid (fun (i : Nat) (hi : i < t.length) => show (Tab.nth t i).name.size ≤ maxLen by
       obtain ⟨_, _, _, _, _, g⟩ := HT.out
       obtain ⟨_, _, _, hc⟩ := g i _ (Tab.of_nth hi)
       exact hc.2.2.2.2.1)
      have HAC := Lib.hid (fun (A : List (Nat × Nat)) (hA : AllS t A (fun x y => x < t.length ∧ y < t.length)) (i k : Nat) (hp : (i, k) ∈ A) (hn : Tab.sub t (Tab.nth t i).name (Tab.nth t k).name = false) => Tab.all_closed HO.out hA hp hn)
      have HMG := Lib.hid (fun (L : List (Nat × Nat)) (hL : ∀ p ∈ L, p.1 < t.length ∧ p.2 < t.length) (hc : ∀ p ∈ L, Tab.closed t L p.1 p.2 = true) (p : Nat × Nat) (hp : p ∈ L) => Tab.mine_goes HO.out hL hc hp)
      obtain ⟨n, hn⟩ : ∃ n, t.length = n := ⟨_, rfl⟩
      have HN := Lib.hid hn
      rw [hn] at hn9 hnp HNM HPK HGO HSU HCL HNS HAC HMG HT hl0 hl0I ⊢
      clear hn hl0 HSH
      go_wp2_with fail
      go_loopw [6, 8] (fun m q wr => ∃ (j : Nat) (L : List (Nat × Nat)), q = .int .i64 j ∧ j ≤ l.length ∧ L.length = j ∧ (∀ p ∈ L, p.1 < n ∧ p.2 < n) ∧ wr.ownsRow w3.heap.size 42 2 m L.length (L.flatMap prN) ∧ Kept w3 wr) (fun m q wr => l.length - (intOf q).toNat)
      case atStart => exact ⟨0, [], rfl, Nat.zero_le _, rfl, (fun p hp => by cases hp), World.ownsRow_nil _ _ _ _, Kept.refl _⟩
      case round =>
       obtain ⟨j, L, rfl, hj, hLl, hLi, hown, hk⟩ := hrel
       obtain ⟨wo, rfl⟩ : ∃ wo, wo = wr := ⟨_, rfl⟩
       have HOW := Lib.hid hown
       have HLL := Lib.hid hLl
       have HLN := Lib.hid hLi
       have HKO := Lib.hid hk
       obtain ⟨ma, mn, mc, rfl⟩ := owns_slice hown
       clear hown hLl hLi hk
       by_cases hlt : j < l.length
       ·have hltI : (j : Int) < (l.length : Int) := by omega
        have hx : l[j]? = some l[j] := List.getElem?_eq_getElem hlt
        generalize l[j] = p at hx
        obtain ⟨p1, p2⟩ := p
        obtain ⟨_, _, e, g1, g2, g3⟩ := prsI_kept HLI.out HK3.out
        injection e with e1 e2 e3
        subst e1 e3
        unfold maxLen at g2
        obtain ⟨b, o, rfl, d0, d1, ⟨q1, q2⟩, q3, q4⟩ := g3 j _ hx
        dsimp only at d0 d1 q1 q2 q3 q4
        have HD0 := Lib.hid d0
        have HD1 := Lib.hid d1
        have s0 := HKO.out.drew.cell d0
        have s1 := HKO.out.drew.cell d1
        clear g3 e2 hx d0 d1
        go_wp2_with fail
        refine wp_region_held_drew (S := (fun W => W.cell? ⟨b, o + j * 2, none⟩ = some (.int .i64 p1) ∧ W.cell? ⟨b, o + j * 2 + 1, none⟩ = some (.int .i64 p2) ∧ Kept w3 W)) (by kernel_rfl) ⟨s0, s1, HKO.out.drew⟩ (fun hHeld0 => ?_)
        clear s0 s1
        refine wpAnyH_take (i := 0) (v := ?_) rfl (by kernel_rfl) (by kernel_rfl) (by kernel_rfl) (fun _ _ _ h => h) (Or.inl ⟨by kernel_rfl, ?_⟩) (by assumption) ?_
        rotate_left
        ·intro w hSw; (try dsimp only at hSw); go_simp; (try with_reducible rfl)
        (try simp only [Act.put, List.getElem_toArray, List.getElem_cons_zero, List.getElem_cons_succ, List.setIfInBounds_toArray, List.set_cons_zero, List.set_cons_succ])
        refine wpAnyH_take (i := 1) (v := ?_) rfl (by kernel_rfl) (by kernel_rfl) (by kernel_rfl) (fun _ _ _ h => h) (Or.inl ⟨by kernel_rfl, ?_⟩) (by assumption) ?_
        rotate_left
        ·intro w hSw; (try dsimp only at hSw); go_simp; (try with_reducible rfl)
        (try simp only [Act.put, List.getElem_toArray, List.getElem_cons_zero, List.getElem_cons_succ, List.setIfInBounds_toArray, List.set_cons_zero, List.set_cons_succ])
        refine wpAnyH_take (i := 2) (v := ?_) rfl (by kernel_rfl) (by kernel_rfl) (by kernel_rfl) (fun _ _ _ h => h) (Or.inl ⟨by kernel_rfl, ?_⟩) (by assumption) ?_
        rotate_left
        ·intro w hSw; (try dsimp only at hSw); go_simp; (try with_reducible rfl)
        (try simp only [Act.put, List.getElem_toArray, List.getElem_cons_zero, List.getElem_cons_succ, List.setIfInBounds_toArray, List.set_cons_zero, List.set_cons_succ])
        refine wpAnyH_take (i := 3) (v := ?_) rfl (by kernel_rfl) (by kernel_rfl) (by kernel_rfl) (fun _ _ _ h => h) (Or.inl ⟨by kernel_rfl, ?_⟩) (by assumption) ?_
        rotate_left
        ·intro w hSw; (try dsimp only at hSw); go_simp; (try with_reducible rfl)
        (try simp only [Act.put, List.getElem_toArray, List.getElem_cons_zero, List.getElem_cons_succ, List.setIfInBounds_toArray, List.set_cons_zero, List.set_cons_succ])
        refine wpAnyH_take (i := 4) (v := ?_) rfl (by kernel_rfl) (by kernel_rfl) (by kernel_rfl) (fun _ _ _ h => h) (Or.inl ⟨by kernel_rfl, ?_⟩) (by assumption) ?_
        rotate_left
        ·intro w hSw; (try dsimp only at hSw); go_simp; (try with_reducible rfl)
        (try simp only [Act.put, List.getElem_toArray, List.getElem_cons_zero, List.getElem_cons_succ, List.setIfInBounds_toArray, List.set_cons_zero, List.set_cons_succ])
        refine wpAnyH_take (i := 5) (v := ?_) rfl (by kernel_rfl) (by kernel_rfl) (by kernel_rfl) (fun _ _ _ h => h) (Or.inl ⟨by kernel_rfl, ?_⟩) (by assumption) ?_
        rotate_left
        ·intro w hSw; (try dsimp only at hSw); go_simp; (try with_reducible rfl)
        (try simp only [Act.put, List.getElem_toArray, List.getElem_cons_zero, List.getElem_cons_succ, List.setIfInBounds_toArray, List.set_cons_zero, List.set_cons_succ])
        refine wpAnyH_take (i := 6) (v := ?_) rfl (by kernel_rfl) (by kernel_rfl) (by kernel_rfl) (fun _ _ _ h => h) (Or.inl ⟨by kernel_rfl, ?_⟩) (by assumption) ?_
        rotate_left
        ·intro w hSw; (try dsimp only at hSw); go_simp; (try with_reducible rfl)
        (try simp only [Act.put, List.getElem_toArray, List.getElem_cons_zero, List.getElem_cons_succ, List.setIfInBounds_toArray, List.set_cons_zero, List.set_cons_succ])
        refine wpAnyH_take (i := 7) (v := ?_) rfl (by kernel_rfl) (by kernel_rfl) (by kernel_rfl) (fun _ _ _ h => h) (Or.inl ⟨by kernel_rfl, ?_⟩) (by assumption) ?_
        rotate_left
        ·intro w hSw; (try dsimp only at hSw); go_simp; (try with_reducible rfl)
        (try simp only [Act.put, List.getElem_toArray, List.getElem_cons_zero, List.getElem_cons_succ, List.setIfInBounds_toArray, List.set_cons_zero, List.set_cons_succ])
        refine wpAnyH_take (i := 9) (v := ?_) rfl (by kernel_rfl) (by kernel_rfl) (by kernel_rfl) (fun _ _ _ h => h) (Or.inl ⟨by kernel_rfl, ?_⟩) (by assumption) ?_
        rotate_left
        ·intro w hSw; (try dsimp only at hSw); go_simp; (try with_reducible rfl)
        (try simp only [Act.put, List.getElem_toArray, List.getElem_cons_zero, List.getElem_cons_succ, List.setIfInBounds_toArray, List.set_cons_zero, List.set_cons_succ])
        refine wpAnyH_take (i := 10) (v := ?_) rfl (by kernel_rfl) (by kernel_rfl) (by kernel_rfl) (fun _ _ _ h => h) (Or.inl ⟨by kernel_rfl, ?_⟩) (by assumption) ?_
        rotate_left
        ·intro w hSw; (try dsimp only at hSw); go_simp; (try with_reducible rfl)
        (try simp only [Act.put, List.getElem_toArray, List.getElem_cons_zero, List.getElem_cons_succ, List.setIfInBounds_toArray, List.set_cons_zero, List.set_cons_succ])
        refine wpAnyH_take (i := 11) (v := ?_) rfl (by kernel_rfl) (by kernel_rfl) (by kernel_rfl) (fun _ _ _ h => h) (Or.inl ⟨by kernel_rfl, ?_⟩) (by assumption) ?_
        rotate_left
        ·intro w hSw; (try dsimp only at hSw); go_simp; (try with_reducible rfl)
        (try simp only [Act.put, List.getElem_toArray, List.getElem_cons_zero, List.getElem_cons_succ, List.setIfInBounds_toArray, List.set_cons_zero, List.set_cons_succ])
        refine wpAnyH_take (i := 12) (v := ?_) rfl (by kernel_rfl) (by kernel_rfl) (by kernel_rfl) (fun _ _ _ h => h) (Or.inl ⟨by kernel_rfl, ?_⟩) (by assumption) ?_
        rotate_left
        ·intro w hSw; (try dsimp only at hSw); go_simp; (try with_reducible rfl)
        (try simp only [Act.put, List.getElem_toArray, List.getElem_cons_zero, List.getElem_cons_succ, List.setIfInBounds_toArray, List.set_cons_zero, List.set_cons_succ])
        refine wpAnyH_take (i := 13) (v := ?_) rfl (by kernel_rfl) (by kernel_rfl) (by kernel_rfl) (fun _ _ _ h => h) (Or.inl ⟨by kernel_rfl, ?_⟩) (by assumption) ?_
        rotate_left
        ·intro w hSw; (try dsimp only at hSw); go_simp; (try with_reducible rfl)
        (try simp only [Act.put, List.getElem_toArray, List.getElem_cons_zero, List.getElem_cons_succ, List.setIfInBounds_toArray, List.set_cons_zero, List.set_cons_succ])
        refine wpAnyH_take (i := 14) (v := ?_) rfl (by kernel_rfl) (by kernel_rfl) (by kernel_rfl) (fun _ _ _ h => h) (Or.inl ⟨by kernel_rfl, ?_⟩) (by assumption) ?_
        rotate_left
        ·intro w hSw; (try dsimp only at hSw); go_simp; (try with_reducible rfl)
        (try simp only [Act.put, List.getElem_toArray, List.getElem_cons_zero, List.getElem_cons_succ, List.setIfInBounds_toArray, List.set_cons_zero, List.set_cons_succ])
        refine wpAnyH_take (i := 15) (v := ?_) rfl (by kernel_rfl) (by kernel_rfl) (by kernel_rfl) (fun _ _ _ h => h) (Or.inl ⟨by kernel_rfl, ?_⟩) (by assumption) ?_
        rotate_left
        ·intro w hSw; (try dsimp only at hSw); go_simp; (try with_reducible rfl)
        (try simp only [Act.put, List.getElem_toArray, List.getElem_cons_zero, List.getElem_cons_succ, List.setIfInBounds_toArray, List.set_cons_zero, List.set_cons_succ])
        refine wpAnyH_ready (rs := [8]) (by kernel_rfl) (by simp) ?_
        refine AllReadyH.cons rfl (fun K hK => ?_) AllReadyH.nil
        go_simp
        go_at_call 36
        refine (HPK.out p1 _ q1 q2).mono ?_
        rintro e w4 ⟨⟨x, hx, rfl⟩, rfl⟩
        refine hK.out _ _ hHeld0 (fun hHeld1 => ?_)
        clear hK K
        (try simp only [Act.put, List.getElem_toArray, List.getElem_cons_zero, List.getElem_cons_succ, List.setIfInBounds_toArray, List.set_cons_zero, List.set_cons_succ])
        refine wpAnyH_ready (rs := [16]) (by kernel_rfl) (by simp) ?_
        refine AllReadyH.cons rfl (fun K hK => ?_) AllReadyH.nil
        go_simp
        go_at_call 36
        refine (HPK.out p2 _ q3 q4).mono ?_
        rintro e w4 ⟨⟨y, hy, rfl⟩, rfl⟩
        refine hK.out _ _ hHeld0 (fun hHeld2 => ?_)
        clear hK K
        (try simp only [Act.put, List.getElem_toArray, List.getElem_cons_zero, List.getElem_cons_succ, List.setIfInBounds_toArray, List.set_cons_zero, List.set_cons_succ])
        refine wpAnyH_take (i := 17) (v := ?_) rfl (by kernel_rfl) (by kernel_rfl) (by kernel_rfl) (fun _ _ _ h => h) (Or.inl ⟨by kernel_rfl, ?_⟩) (by assumption) ?_
        rotate_left
        ·intro w hSw; (try dsimp only at hSw); go_simp; (try with_reducible rfl)
        (try simp only [Act.put, List.getElem_toArray, List.getElem_cons_zero, List.getElem_cons_succ, List.setIfInBounds_toArray, List.set_cons_zero, List.set_cons_succ])
        have HKG := Lib.hid (HKO.out.drew.alloc (.cells #[.int .i64 x, .int .i64 y] 42))
        refine wpAnyH_ready (rs := [18]) (by kernel_rfl) (by simp) ?_
        refine AllReadyH.cons rfl (fun K hK => ?_) AllReadyH.nil
        go_simp
        refine hK.out _ _ ⟨HKG.out.cell HD0.out, HKG.out.cell HD1.out, HKG.out⟩ (fun hHeld3 => ?_)
        clear hK K
        (try simp only [Act.put, List.getElem_toArray, List.getElem_cons_zero, List.getElem_cons_succ, List.setIfInBounds_toArray, List.set_cons_zero, List.set_cons_succ])
        have HRX := Lib.hid (owns_only (S := fun _ => False) HOW.out ((Only.refl _ wo).drew.alloc (.cells #[.int .i64 x, .int .i64 y] 42)) (fun _ _ h => h))
        have HSX := Lib.hid (src_prN wo.drew x y)
        have HBB := Lib.hid HKO.out.size
        have HGE := Lib.hid (fun q (e : (Value.slice ma mn mc).ownBlock = some q) => row_geG HOW.out e)
        refine wpAnyH_ready (rs := [19]) (by kernel_rfl) (by simp) ?_
        refine AllReadyH.cons rfl (fun K hK => ?_) AllReadyH.nil
        refine step_apk rfl (.tmp 40) (.tmp 58) 35 35 rfl w3.heap.size 2 42 i0 _ 16 Tryz.underlying35 hi hz0 hzz1 hzz2 rfl rfl HRX.out rfl HSX.out (by rw [HLL.out]; unfold maxLen; omega) (by rw [HLL.out]; omega) (by have := HBB.out; simp; omega) ?_
        intro v' w5 hown' hgrow hnl hlies
        have HN2 := Lib.hid hown'
        have HK5 := Lib.hid (HKG.out.grown hgrow fun k e => HGE.out k e)
        obtain ⟨va', vn', vc', rfl⟩ := owns_slice hown'
        clear hown' hgrow hlies hnl
        refine hK.out _ _ ⟨HK5.out.cell HD0.out, HK5.out.cell HD1.out, HK5.out⟩ (fun hHeld4 => ?_)
        clear hK K
        (try simp only [Act.put, List.getElem_toArray, List.getElem_cons_zero, List.getElem_cons_succ, List.setIfInBounds_toArray, List.set_cons_zero, List.set_cons_succ])
        refine wpAnyH_take (i := 20) (v := ?_) rfl (by kernel_rfl) (by kernel_rfl) (by kernel_rfl) (fun _ _ _ h => h) (Or.inl ⟨by kernel_rfl, ?_⟩) (by assumption) ?_
        rotate_left
        ·intro w hSw; (try dsimp only at hSw); go_simp; (try with_reducible rfl)
        (try simp only [Act.put, List.getElem_toArray, List.getElem_cons_zero, List.getElem_cons_succ, List.setIfInBounds_toArray, List.set_cons_zero, List.set_cons_succ])
        refine wpAnyH_done (by kernel_rfl) ?_ _
        have HLI2 := Lib.hid (show ∀ p ∈ L ++ [(x, y)], p.1 < n ∧ p.2 < n from fun p hp => by
         rcases List.mem_append.1 hp with e | e
         ·exact HLN.out p e
         ·obtain rfl := List.mem_singleton.1 e; exact ⟨hx, hy⟩)
        clear hHeld0 hHeld1 hHeld2 hHeld3 hHeld4
        go_wp2_with fail
        go_roundw
        case rel =>
         refine ⟨j + 1, L ++ [(x, y)], by go_num, by omega, by rw [List.length_append, HLL.out]; rfl, HLI2.out, ?_, HK5.out⟩
         rw [List.length_append, List.flatMap_append]
         exact HN2.out
        case measure => simp [intOf]; omega
       ·have hltI : ¬ (j : Int) < (l.length : Int) := by omega
        obtain ⟨ma', mc', em⟩ := owns_slice_n HOW.out
        injection em with em1 em2 em3
        obtain rfl : mn = L.length := em2
        clear em1 em3 ma' mc'
        have HKW := Lib.hid (HK3.out.trans HKO.out)
        have HMI := Lib.hid (pairs_of_row HOW.out)
        go_wp2_with fail
        go_loopw [7, 9] (fun v q wr => ∃ (i : Nat) (A : List (Nat × Nat)), q = .int .i64 i ∧ i ≤ n ∧ Hid (AllS t A (fun x y => x < i ∧ y < n)) ∧ A.length ≤ i * n ∧ wr.ownsRow wo.heap.size 42 2 v A.length (A.flatMap prN) ∧ Kept wo wr) (fun v q wr => n - (intOf q).toNat)
        case atStart => exact ⟨0, [], rfl, Nat.zero_le _, Lib.hid (fun x y => by simp), by simp, World.ownsRow_nil _ _ _ _, Kept.refl _⟩
        case round =>
         obtain ⟨i, A, rfl, hi9, HAS, hAl, hownA, hkA⟩ := hrel
         obtain ⟨wa, rfl⟩ : ∃ wa, wa = wr := ⟨_, rfl⟩
         have HOA := Lib.hid hownA
         have HKA := Lib.hid hkA
         have HLA := Lib.hid hAl
         obtain ⟨aa, an, ac, rfl⟩ := owns_slice hownA
         clear hownA hkA hAl
         by_cases hil : i < n
         ·have hilI : (i : Int) < (n : Int) := by omega
          go_wp2_with fail
          go_loopw [7, 10] (fun v q wr => ∃ (k : Nat) (A : List (Nat × Nat)), q = .int .i64 k ∧ k ≤ n ∧ Hid (AllS t A (fun x y => (x < i ∧ y < n) ∨ (x = i ∧ y < k))) ∧ Hid (A.length ≤ i * n + k) ∧ wr.ownsRow wo.heap.size 42 2 v A.length (A.flatMap prN) ∧ Kept wo wr) (fun v q wr => n - (intOf q).toNat)
          case atStart => exact ⟨0, A, rfl, Nat.zero_le _, Lib.hid (HAS.out.congr fun x y => by omega), Lib.hid HLA.out, HOA.out, HKA.out⟩
          case round =>
           obtain ⟨k, B, rfl, hk9, HBS, HBL, hownB, hkB⟩ := hrel
           obtain ⟨wb, rfl⟩ : ∃ wb, wb = wr := ⟨_, rfl⟩
           have HOB := Lib.hid hownB
           have HKB := Lib.hid hkB
           obtain ⟨ba, bn, bc, rfl⟩ := owns_slice hownB
           clear hownB hkB
           by_cases hkl : k < n
           ·have hklI : (k : Int) < (n : Int) := by omega
            obtain ⟨_, _, et, _, _, hat⟩ := tab_kept HT.out (HKW.out.trans HKB.out)
            obtain ⟨tb, to, e1, cx, _⟩ := hat i _ (HNM.out i hil)
            obtain ⟨tb', to', e2, cy, _⟩ := hat k _ (HNM.out k hkl)
            injection et with et1 et2 et3
            subst et1
            rw [e1] at e2
            injection e2 with e2
            injection e2 with e2 e3
            subst e2 e3 e1
            have HGG := Lib.hid (HGO.out (Tab.nth t i).name (Tab.nth t k).name (HNS.out i hil) (HNS.out k hkl) wb.drew (HKW.out.trans HKB.out).drew)
            obtain ⟨r, hr⟩ : ∃ r, Tab.goes t (Tab.nth t i).name (Tab.nth t k).name = r := ⟨_, rfl⟩
            rw [hr] at HGG
            have HR := Lib.hid hr
            generalize (Tab.nth t i).name = sx at cx HGG
            generalize (Tab.nth t k).name = sy at cy HGG
            clear et2 et3 hat hr
            go_wp2_with fail
            go_still_tail 11, (by kernel_rfl)
            change wpList _ _ _ _ _ wb.drew
            clear cx cy
            go_wp2_with fail
            refine HGG.out.mono ?_
            rintro e w6 ⟨rfl, k6⟩
            have HK6 := Lib.hid (HKB.out.drew.trans k6)
            have HO6 := Lib.hid (row_keptG HOB.out ((Kept.refl wb).drew.trans k6))
            clear k6
            cases r with
            | false =>
             have HN3 := Lib.hid (HBS.out.no (D' := fun x y => (x < i ∧ y < n) ∨ (x = i ∧ y < k + 1)) HR.out fun x y => by omega)
             have HBL2 := Lib.hid (show B.length ≤ i * n + (k + 1) by have := HBL.out; omega)
             go_wp2_with fail
             go_roundw
             case rel => (first | exact ⟨k + 1, B, by go_num, by omega, HN3, HBL2, HO6.out, HK6.out⟩ | ((repeat apply Exists.intro); exact ⟨⟨k + 1, B, by go_num, by omega, HN3, HBL2, HO6.out, HK6.out⟩, rfl⟩))
             case measure => simp [intOf]; omega
            | true =>
             have HN3 := Lib.hid (HBS.out.yes (D' := fun x y => (x < i ∧ y < n) ∨ (x = i ∧ y < k + 1)) HR.out fun x y => by omega)
             have HBL2 := Lib.hid (show (B ++ [(i, k)]).length ≤ i * n + (k + 1) by have := HBL.out; rw [List.length_append]; simp; omega)
             have HBB := Lib.hid HK6.out.size
             have HBD := Lib.hid (show B.length ≤ 1000 by
              have h1 := HBL.out
              have h2 : i * n ≤ 9 * 9 := Nat.mul_le_mul (by omega) hn9
              omega)
             have HRX := Lib.hid (owns_only (S := fun _ => False) HO6.out ((Only.refl _ w6).alloc (.cells #[.int .i64 i, .int .i64 k] 42)) (fun _ _ h => h))
             have HSX := Lib.hid (src_prN w6 i k)
             have HGE := Lib.hid (fun q (e : (Value.slice ba bn bc).ownBlock = some q) => row_geG HO6.out e)
             go_wp2_with (at_builtin; refine wpList_apk rfl (.tmp 84) (.tmp 88) 35 35 rfl wo.heap.size 2 42 i0 _ 16 Tryz.underlying35 hi hz0 hzz1 hzz2 rfl rfl HRX.out rfl HSX.out (by have := HBD.out; unfold maxLen; omega) (by have := HBD.out; omega) (by have := HBB.out; simp; omega) ?_; intro v' w7 hown' hgrow hlies; have HN4 := Lib.hid hown'; have HK7 := Lib.hid ((HK6.out.alloc (.cells #[.int .i64 i, .int .i64 k] 42)).grown hgrow fun k e => HGE.out k e); obtain ⟨va', vn', vc', rfl⟩ := owns_slice hown'; clear hown' hgrow hlies)
             have HN5 := Lib.hid (show w7.ownsRow wo.heap.size 42 2 (.slice va' vn' vc') (B ++ [(i, k)]).length ((B ++ [(i, k)]).flatMap prN) by rw [List.length_append, List.flatMap_append]; exact HN4.out)
             go_roundw
             case rel => (first | exact ⟨k + 1, B ++ [(i, k)], by go_num, by omega, HN3, HBL2, HN5.out, HK7.out⟩ | ((repeat apply Exists.intro); exact ⟨⟨k + 1, B ++ [(i, k)], by go_num, by omega, HN3, HBL2, HN5.out, HK7.out⟩, rfl⟩))
             case measure => simp [intOf]; omega
           ·have hklI : ¬ (k : Int) < (n : Int) := by omega
            obtain rfl : k = n := by omega
            have HN3 := Lib.hid (HBS.out.congr (D' := fun x y => x < i + 1 ∧ y < k) fun x y => by omega)
            have HBL2 := Lib.hid (show B.length ≤ (i + 1) * k by have := HBL.out; rw [Nat.succ_mul]; exact this)
            go_wp2_with fail
            go_roundw
            case rel => (first | exact ⟨i + 1, B, by go_num, by omega, HN3, HBL2.out, HOB.out, HKB.out⟩ | ((repeat apply Exists.intro); exact ⟨⟨i + 1, B, by go_num, by omega, HN3, HBL2.out, HOB.out, HKB.out⟩, rfl⟩))
            case measure => simp [intOf]; omega
         ·have hilI : ¬ (i : Int) < (n : Int) := by omega
          obtain rfl : i = n := by omega
          have HAC2 := Lib.hid (HAC.out A HAS.out)
          have HAI := Lib.hid (show Inside t A from fun p hp => by
           have := ((HAS.out p.1 p.2).1 hp).1
           rw [HN.out]
           exact this)
          have HAP := Lib.hid (pairs_of_row HOA.out)
          have HKV := Lib.hid (HKW.out.trans HKA.out)
          have HMI2 := Lib.hid (pairs_kept HMI.out HKA.out)
          have HLA2 := Lib.hid (show A.length ≤ 81 from Nat.le_trans HLA.out (Nat.mul_le_mul hn9 hn9))
          obtain ⟨aa', ac', ea⟩ := owns_slice_n HOA.out
          injection ea with ea1 ea2 ea3
          obtain rfl : an = A.length := ea2
          have hla2 := HLA2.out
          clear ea1 ea3 aa' ac'
          go_wp2_with fail
          go_loopw [11] (fun q wr => ∃ j : Nat, q = .int .i64 j ∧ j ≤ A.length ∧ Kept wa wr) (fun q wr => A.length - (intOf q).toNat)
          case atStart => exact ⟨0, rfl, Nat.zero_le _, Kept.refl _⟩
          case round =>
           obtain ⟨j, rfl, hj, hkc⟩ := hrel
           obtain ⟨wc, rfl⟩ : ∃ wc, wc = wr := ⟨_, rfl⟩
           have HKC := Lib.hid hkc
           clear hkc
           by_cases hjl : j < A.length
           ·have hjlI : (j : Int) < (A.length : Int) := by omega
            have hx : A[j]? = some A[j] := List.getElem?_eq_getElem hjl
            generalize A[j] = p at hx
            obtain ⟨x, y⟩ := p
            have hxy := HAI.out (x, y) (List.mem_of_getElem? hx)
            rw [HN.out] at hxy
            obtain ⟨hxn, hyn⟩ := hxy
            dsimp only at hxn hyn
            obtain ⟨_, _, eP, _, _, gP⟩ := pairs_kept HAP.out HKC.out
            injection eP with eP1 eP2 eP3
            subst eP1 eP3
            obtain ⟨pb, po, rfl, c0, c1⟩ := gP j _ hx
            dsimp only at c0 c1
            obtain ⟨_, _, et, _, _, hat⟩ := tab_kept HT.out (HKV.out.trans HKC.out)
            obtain ⟨tb, to, e1, cx, _⟩ := hat x _ (HNM.out x hxn)
            obtain ⟨tb', to', e2, cy, _⟩ := hat y _ (HNM.out y hyn)
            injection et with et1 et2 et3
            subst et1
            rw [e1] at e2
            injection e2 with e2
            injection e2 with e2 e3
            subst e2 e3 e1
            have hxI : (x : Int) < (i : Int) := by omega
            have hyI : (y : Int) < (i : Int) := by omega
            have HSB := Lib.hid (HSU.out (Tab.nth t x).name (Tab.nth t y).name wc.drew (HKV.out.trans HKC.out).drew)
            have HCC := Lib.hid (fun (W : World) (k : Kept wc W) => HCL.out A (some ⟨pb, po, none⟩) ac x y W ((HKV.out.trans HKC.out).trans k) (pairs_kept HAP.out (HKC.out.trans k)) HAI.out hxn hyn)
            have HCT := Lib.hid (HAC2.out x y (List.mem_of_getElem? hx))
            generalize (Tab.nth t x).name = sx at cx HSB HCT
            generalize (Tab.nth t y).name = sy at cy HSB HCT
            obtain ⟨sb, hsb⟩ : ∃ r, Tab.sub t sx sy = r := ⟨_, rfl⟩
            rw [hsb] at HSB HCT
            have s0 := (Kept.refl wc).drew.cell c0
            have s1 := (Kept.refl wc).drew.cell c1
            have s2 := (Kept.refl wc).drew.cell cx
            have s3 := (Kept.refl wc).drew.cell cy
            clear et2 et3 hat gP eP2 hx hsb
            cases sb with
            | true =>
             go_wp2_with fail
             refine wp_region_held_drew (S := (fun W => W.cell? ⟨pb, po + j * 2, none⟩ = some (.int .i64 x) ∧ W.cell? ⟨pb, po + j * 2 + 1, none⟩ = some (.int .i64 y) ∧ W.cell? ⟨tb, to + x * 4, none⟩ = some (.string sx) ∧ W.cell? ⟨tb, to + y * 4, none⟩ = some (.string sy) ∧ Kept wc W)) (by kernel_rfl) ⟨s0, s1, s2, s3, (Kept.refl wc).drew⟩ (fun hHeld0 => ?_)
             clear s0 s1 s2 s3
             refine wpAnyH_take (i := 0) (v := ?_) rfl (by kernel_rfl) (by kernel_rfl) (by kernel_rfl) (fun _ _ _ h => h) (Or.inl ⟨by kernel_rfl, ?_⟩) (by assumption) ?_
             rotate_left
             ·intro w hSw; (try dsimp only at hSw); go_simp; (try with_reducible rfl)
             (try simp only [Act.put, List.getElem_toArray, List.getElem_cons_zero, List.getElem_cons_succ, List.setIfInBounds_toArray, List.set_cons_zero, List.set_cons_succ])
             refine wpAnyH_take (i := 1) (v := ?_) rfl (by kernel_rfl) (by kernel_rfl) (by kernel_rfl) (fun _ _ _ h => h) (Or.inl ⟨by kernel_rfl, ?_⟩) (by assumption) ?_
             rotate_left
             ·intro w hSw; (try dsimp only at hSw); go_simp; (try with_reducible rfl)
             (try simp only [Act.put, List.getElem_toArray, List.getElem_cons_zero, List.getElem_cons_succ, List.setIfInBounds_toArray, List.set_cons_zero, List.set_cons_succ])
             refine wpAnyH_take (i := 2) (v := ?_) rfl (by kernel_rfl) (by kernel_rfl) (by kernel_rfl) (fun _ _ _ h => h) (Or.inl ⟨by kernel_rfl, ?_⟩) (by assumption) ?_
             rotate_left
             ·intro w hSw; (try dsimp only at hSw); go_simp; (try with_reducible rfl)
             (try simp only [Act.put, List.getElem_toArray, List.getElem_cons_zero, List.getElem_cons_succ, List.setIfInBounds_toArray, List.set_cons_zero, List.set_cons_succ])
             refine wpAnyH_take (i := 3) (v := ?_) rfl (by kernel_rfl) (by kernel_rfl) (by kernel_rfl) (fun _ _ _ h => h) (Or.inl ⟨by kernel_rfl, ?_⟩) (by assumption) ?_
             rotate_left
             ·intro w hSw; (try dsimp only at hSw); go_simp; (try with_reducible rfl)
             (try simp only [Act.put, List.getElem_toArray, List.getElem_cons_zero, List.getElem_cons_succ, List.setIfInBounds_toArray, List.set_cons_zero, List.set_cons_succ])
             refine wpAnyH_take (i := 4) (v := ?_) rfl (by kernel_rfl) (by kernel_rfl) (by kernel_rfl) (fun _ _ _ h => h) (Or.inl ⟨by kernel_rfl, ?_⟩) (by assumption) ?_
             rotate_left
             ·intro w hSw; (try dsimp only at hSw); go_simp; (try with_reducible rfl)
             (try simp only [Act.put, List.getElem_toArray, List.getElem_cons_zero, List.getElem_cons_succ, List.setIfInBounds_toArray, List.set_cons_zero, List.set_cons_succ])
             refine wpAnyH_take (i := 5) (v := ?_) rfl (by kernel_rfl) (by kernel_rfl) (by kernel_rfl) (fun _ _ _ h => h) (Or.inl ⟨by kernel_rfl, ?_⟩) (by assumption) ?_
             rotate_left
             ·intro w hSw; (try dsimp only at hSw); go_simp; (try with_reducible rfl)
             (try simp only [Act.put, List.getElem_toArray, List.getElem_cons_zero, List.getElem_cons_succ, List.setIfInBounds_toArray, List.set_cons_zero, List.set_cons_succ])
             refine wpAnyH_take (i := 6) (v := ?_) rfl (by kernel_rfl) (by kernel_rfl) (by kernel_rfl) (fun _ _ _ h => h) (Or.inl ⟨by kernel_rfl, ?_⟩) (by assumption) ?_
             rotate_left
             ·intro w hSw; (try dsimp only at hSw); go_simp; (try with_reducible rfl)
             (try simp only [Act.put, List.getElem_toArray, List.getElem_cons_zero, List.getElem_cons_succ, List.setIfInBounds_toArray, List.set_cons_zero, List.set_cons_succ])
             refine wpAnyH_take (i := 7) (v := ?_) rfl (by kernel_rfl) (by kernel_rfl) (by kernel_rfl) (fun _ _ _ h => h) (Or.inl ⟨by kernel_rfl, ?_⟩) (by assumption) ?_
             rotate_left
             ·intro w hSw; (try dsimp only at hSw); go_simp; (try with_reducible rfl)
             (try simp only [Act.put, List.getElem_toArray, List.getElem_cons_zero, List.getElem_cons_succ, List.setIfInBounds_toArray, List.set_cons_zero, List.set_cons_succ])
             refine wpAnyH_take (i := 8) (v := ?_) rfl (by kernel_rfl) (by kernel_rfl) (by kernel_rfl) (fun _ _ _ h => h) (Or.inl ⟨by kernel_rfl, ?_⟩) (by assumption) ?_
             rotate_left
             ·intro w hSw; (try dsimp only at hSw); go_simp; (try with_reducible rfl)
             (try simp only [Act.put, List.getElem_toArray, List.getElem_cons_zero, List.getElem_cons_succ, List.setIfInBounds_toArray, List.set_cons_zero, List.set_cons_succ])
             refine wpAnyH_take (i := 9) (v := ?_) rfl (by kernel_rfl) (by kernel_rfl) (by kernel_rfl) (fun _ _ _ h => h) (Or.inl ⟨by kernel_rfl, ?_⟩) (by assumption) ?_
             rotate_left
             ·intro w hSw; (try dsimp only at hSw); go_simp; (try with_reducible rfl)
             (try simp only [Act.put, List.getElem_toArray, List.getElem_cons_zero, List.getElem_cons_succ, List.setIfInBounds_toArray, List.set_cons_zero, List.set_cons_succ])
             refine wpAnyH_take (i := 10) (v := ?_) rfl (by kernel_rfl) (by kernel_rfl) (by kernel_rfl) (fun _ _ _ h => h) (Or.inl ⟨by kernel_rfl, ?_⟩) (by assumption) ?_
             rotate_left
             ·intro w hSw; (try dsimp only at hSw); go_simp; (try with_reducible rfl)
             (try simp only [Act.put, List.getElem_toArray, List.getElem_cons_zero, List.getElem_cons_succ, List.setIfInBounds_toArray, List.set_cons_zero, List.set_cons_succ])
             refine wpAnyH_take (i := 11) (v := ?_) rfl (by kernel_rfl) (by kernel_rfl) (by kernel_rfl) (fun _ _ _ h => h) (Or.inl ⟨by kernel_rfl, ?_⟩) (by assumption) ?_
             rotate_left
             ·intro w hSw; (try dsimp only at hSw); go_simp; (try with_reducible rfl)
             (try simp only [Act.put, List.getElem_toArray, List.getElem_cons_zero, List.getElem_cons_succ, List.setIfInBounds_toArray, List.set_cons_zero, List.set_cons_succ])
             refine wpAnyH_take (i := 12) (v := ?_) rfl (by kernel_rfl) (by kernel_rfl) (by kernel_rfl) (fun _ _ _ h => h) (Or.inl ⟨by kernel_rfl, ?_⟩) (by assumption) ?_
             rotate_left
             ·intro w hSw; (try dsimp only at hSw); go_simp; (try with_reducible rfl)
             (try simp only [Act.put, List.getElem_toArray, List.getElem_cons_zero, List.getElem_cons_succ, List.setIfInBounds_toArray, List.set_cons_zero, List.set_cons_succ])
             refine wpAnyH_take (i := 13) (v := ?_) rfl (by kernel_rfl) (by kernel_rfl) (by kernel_rfl) (fun _ _ _ h => h) (Or.inl ⟨by kernel_rfl, ?_⟩) (by assumption) ?_
             rotate_left
             ·intro w hSw; (try dsimp only at hSw); go_simp; (try with_reducible rfl)
             (try simp only [Act.put, List.getElem_toArray, List.getElem_cons_zero, List.getElem_cons_succ, List.setIfInBounds_toArray, List.set_cons_zero, List.set_cons_succ])
             refine wpAnyH_take (i := 14) (v := ?_) rfl (by kernel_rfl) (by kernel_rfl) (by kernel_rfl) (fun _ _ _ h => h) (Or.inl ⟨by kernel_rfl, ?_⟩) (by assumption) ?_
             rotate_left
             ·intro w hSw; (try dsimp only at hSw); go_simp; (try with_reducible rfl)
             (try simp only [Act.put, List.getElem_toArray, List.getElem_cons_zero, List.getElem_cons_succ, List.setIfInBounds_toArray, List.set_cons_zero, List.set_cons_succ])
             refine wpAnyH_take (i := 15) (v := ?_) rfl (by kernel_rfl) (by kernel_rfl) (by kernel_rfl) (fun _ _ _ h => h) (Or.inl ⟨by kernel_rfl, ?_⟩) (by assumption) ?_
             rotate_left
             ·intro w hSw; (try dsimp only at hSw); go_simp; (try with_reducible rfl)
             (try simp only [Act.put, List.getElem_toArray, List.getElem_cons_zero, List.getElem_cons_succ, List.setIfInBounds_toArray, List.set_cons_zero, List.set_cons_succ])
             refine wpAnyH_take (i := 16) (v := ?_) rfl (by kernel_rfl) (by kernel_rfl) (by kernel_rfl) (fun _ _ _ h => h) (Or.inl ⟨by kernel_rfl, ?_⟩) (by assumption) ?_
             rotate_left
             ·intro w hSw; (try dsimp only at hSw); go_simp; (try with_reducible rfl)
             (try simp only [Act.put, List.getElem_toArray, List.getElem_cons_zero, List.getElem_cons_succ, List.setIfInBounds_toArray, List.set_cons_zero, List.set_cons_succ])
             refine wpAnyH_take (i := 17) (v := ?_) rfl (by kernel_rfl) (by kernel_rfl) (by kernel_rfl) (fun _ _ _ h => h) (Or.inl ⟨by kernel_rfl, ?_⟩) (by assumption) ?_
             rotate_left
             ·intro w hSw; (try dsimp only at hSw); go_simp; (try with_reducible rfl)
             (try simp only [Act.put, List.getElem_toArray, List.getElem_cons_zero, List.getElem_cons_succ, List.setIfInBounds_toArray, List.set_cons_zero, List.set_cons_succ])
             refine wpAnyH_take (i := 18) (v := ?_) rfl (by kernel_rfl) (by kernel_rfl) (by kernel_rfl) (fun _ _ _ h => h) (Or.inl ⟨by kernel_rfl, ?_⟩) (by assumption) ?_
             rotate_left
             ·intro w hSw; (try dsimp only at hSw); go_simp; (try with_reducible rfl)
             (try simp only [Act.put, List.getElem_toArray, List.getElem_cons_zero, List.getElem_cons_succ, List.setIfInBounds_toArray, List.set_cons_zero, List.set_cons_succ])
             refine wpAnyH_ready (rs := [19]) (by kernel_rfl) (by simp) ?_
             refine AllReadyH.cons rfl (fun K hK => ?_) AllReadyH.nil
             go_simp
             go_at_call 21
             refine HSB.out.mono ?_
             rintro e w8 ⟨rfl, k8⟩
             have k9 := (Kept.refl wc).drew.trans k8
             refine hK.out _ _ ⟨k9.cell c0, k9.cell c1, k9.cell cx, k9.cell cy, k9⟩ (fun hHeld1 => ?_)
             clear hK K
             (try simp only [Act.put, List.getElem_toArray, List.getElem_cons_zero, List.getElem_cons_succ, List.setIfInBounds_toArray, List.set_cons_zero, List.set_cons_succ])
             refine wpAnyH_take (i := 20) (v := ?_) rfl (by kernel_rfl) (by kernel_rfl) (by kernel_rfl) (fun _ _ _ h => h) (Or.inl ⟨by kernel_rfl, ?_⟩) (by assumption) ?_
             rotate_left
             ·intro w hSw; (try dsimp only at hSw); go_simp; (try with_reducible rfl)
             (try simp only [Act.put, List.getElem_toArray, List.getElem_cons_zero, List.getElem_cons_succ, List.setIfInBounds_toArray, List.set_cons_zero, List.set_cons_succ])
             refine wpAnyH_take (i := 21) (v := ?_) rfl (by kernel_rfl) (by kernel_rfl) (by kernel_rfl) (fun _ _ _ h => h) (Or.inl ⟨by kernel_rfl, ?_⟩) (by assumption) ?_
             rotate_left
             ·intro w hSw; (try dsimp only at hSw); go_simp; (try with_reducible rfl)
             (try simp only [Act.put, List.getElem_toArray, List.getElem_cons_zero, List.getElem_cons_succ, List.setIfInBounds_toArray, List.set_cons_zero, List.set_cons_succ])
             refine wpAnyH_take (i := 22) (v := undef) rfl (by kernel_rfl) (by kernel_rfl) (by kernel_rfl) (fun _ _ _ h => h) (Or.inr ⟨by kernel_rfl, rfl⟩) (by assumption) ?_
             (try simp only [Act.put, List.getElem_toArray, List.getElem_cons_zero, List.getElem_cons_succ, List.setIfInBounds_toArray, List.set_cons_zero, List.set_cons_succ])
             refine wpAnyH_take (i := 23) (v := undef) rfl (by kernel_rfl) (by kernel_rfl) (by kernel_rfl) (fun _ _ _ h => h) (Or.inr ⟨by kernel_rfl, rfl⟩) (by assumption) ?_
             (try simp only [Act.put, List.getElem_toArray, List.getElem_cons_zero, List.getElem_cons_succ, List.setIfInBounds_toArray, List.set_cons_zero, List.set_cons_succ])
             refine wpAnyH_take (i := 24) (v := undef) rfl (by kernel_rfl) (by kernel_rfl) (by kernel_rfl) (fun _ _ _ h => h) (Or.inr ⟨by kernel_rfl, rfl⟩) (by assumption) ?_
             (try simp only [Act.put, List.getElem_toArray, List.getElem_cons_zero, List.getElem_cons_succ, List.setIfInBounds_toArray, List.set_cons_zero, List.set_cons_succ])
             refine wpAnyH_take (i := 25) (v := undef) rfl (by kernel_rfl) (by kernel_rfl) (by kernel_rfl) (fun _ _ _ h => h) (Or.inr ⟨by kernel_rfl, rfl⟩) (by assumption) ?_
             (try simp only [Act.put, List.getElem_toArray, List.getElem_cons_zero, List.getElem_cons_succ, List.setIfInBounds_toArray, List.set_cons_zero, List.set_cons_succ])
             refine wpAnyH_take (i := 26) (v := undef) rfl (by kernel_rfl) (by kernel_rfl) (by kernel_rfl) (fun _ _ _ h => h) (Or.inr ⟨by kernel_rfl, rfl⟩) (by assumption) ?_
             (try simp only [Act.put, List.getElem_toArray, List.getElem_cons_zero, List.getElem_cons_succ, List.setIfInBounds_toArray, List.set_cons_zero, List.set_cons_succ])
             refine wpAnyH_take (i := 27) (v := undef) rfl (by kernel_rfl) (by kernel_rfl) (by kernel_rfl) (fun _ _ _ h => h) (Or.inr ⟨by kernel_rfl, rfl⟩) (by assumption) ?_
             (try simp only [Act.put, List.getElem_toArray, List.getElem_cons_zero, List.getElem_cons_succ, List.setIfInBounds_toArray, List.set_cons_zero, List.set_cons_succ])
             refine wpAnyH_take (i := 28) (v := undef) rfl (by kernel_rfl) (by kernel_rfl) (by kernel_rfl) (fun _ _ _ h => h) (Or.inr ⟨by kernel_rfl, rfl⟩) (by assumption) ?_
             (try simp only [Act.put, List.getElem_toArray, List.getElem_cons_zero, List.getElem_cons_succ, List.setIfInBounds_toArray, List.set_cons_zero, List.set_cons_succ])
             refine wpAnyH_take (i := 29) (v := undef) rfl (by kernel_rfl) (by kernel_rfl) (by kernel_rfl) (fun _ _ _ h => h) (Or.inr ⟨by kernel_rfl, rfl⟩) (by assumption) ?_
             (try simp only [Act.put, List.getElem_toArray, List.getElem_cons_zero, List.getElem_cons_succ, List.setIfInBounds_toArray, List.set_cons_zero, List.set_cons_succ])
             refine wpAnyH_take (i := 30) (v := ?_) rfl (by kernel_rfl) (by kernel_rfl) (by kernel_rfl) (fun _ _ _ h => h) (Or.inl ⟨by kernel_rfl, ?_⟩) (by assumption) ?_
             rotate_left
             ·intro w hSw; (try dsimp only at hSw); go_simp; (try with_reducible rfl)
             (try simp only [Act.put, List.getElem_toArray, List.getElem_cons_zero, List.getElem_cons_succ, List.setIfInBounds_toArray, List.set_cons_zero, List.set_cons_succ])
             refine wpAnyH_done (by kernel_rfl) ?_ _
             have HK9 := Lib.hid (HKC.out.trans k9)
             clear hHeld0 hHeld1 c0 c1 cx cy k8 k9
             go_wp2_with fail
             go_roundw
             case rel => (first | exact ⟨j + 1, by go_num, by omega, HK9.out⟩ | ((repeat apply Exists.intro); exact ⟨⟨j + 1, by go_num, by omega, HK9.out⟩, rfl⟩))
             case measure => simp [intOf]; omega
            | false =>
             have HCY := Lib.hid (fun (W : World) (k : Kept wc W) => show Calls _ _ _ W _ from by have := HCC.out W k; rw [HCT.out rfl] at this; exact this)
             go_wp2_with fail
             refine wp_region_held_drew (S := (fun W => W.cell? ⟨pb, po + j * 2, none⟩ = some (.int .i64 x) ∧ W.cell? ⟨pb, po + j * 2 + 1, none⟩ = some (.int .i64 y) ∧ W.cell? ⟨tb, to + x * 4, none⟩ = some (.string sx) ∧ W.cell? ⟨tb, to + y * 4, none⟩ = some (.string sy) ∧ Kept wc W)) (by kernel_rfl) ⟨s0, s1, s2, s3, (Kept.refl wc).drew⟩ (fun hHeld0 => ?_)
             clear s0 s1 s2 s3
             refine wpAnyH_take (i := 0) (v := ?_) rfl (by kernel_rfl) (by kernel_rfl) (by kernel_rfl) (fun _ _ _ h => h) (Or.inl ⟨by kernel_rfl, ?_⟩) (by assumption) ?_
             rotate_left
             ·intro w hSw; (try dsimp only at hSw); go_simp; (try with_reducible rfl)
             (try simp only [Act.put, List.getElem_toArray, List.getElem_cons_zero, List.getElem_cons_succ, List.setIfInBounds_toArray, List.set_cons_zero, List.set_cons_succ])
             refine wpAnyH_take (i := 1) (v := ?_) rfl (by kernel_rfl) (by kernel_rfl) (by kernel_rfl) (fun _ _ _ h => h) (Or.inl ⟨by kernel_rfl, ?_⟩) (by assumption) ?_
             rotate_left
             ·intro w hSw; (try dsimp only at hSw); go_simp; (try with_reducible rfl)
             (try simp only [Act.put, List.getElem_toArray, List.getElem_cons_zero, List.getElem_cons_succ, List.setIfInBounds_toArray, List.set_cons_zero, List.set_cons_succ])
             refine wpAnyH_take (i := 2) (v := ?_) rfl (by kernel_rfl) (by kernel_rfl) (by kernel_rfl) (fun _ _ _ h => h) (Or.inl ⟨by kernel_rfl, ?_⟩) (by assumption) ?_
             rotate_left
             ·intro w hSw; (try dsimp only at hSw); go_simp; (try with_reducible rfl)
             (try simp only [Act.put, List.getElem_toArray, List.getElem_cons_zero, List.getElem_cons_succ, List.setIfInBounds_toArray, List.set_cons_zero, List.set_cons_succ])
             refine wpAnyH_take (i := 3) (v := ?_) rfl (by kernel_rfl) (by kernel_rfl) (by kernel_rfl) (fun _ _ _ h => h) (Or.inl ⟨by kernel_rfl, ?_⟩) (by assumption) ?_
             rotate_left
             ·intro w hSw; (try dsimp only at hSw); go_simp; (try with_reducible rfl)
             (try simp only [Act.put, List.getElem_toArray, List.getElem_cons_zero, List.getElem_cons_succ, List.setIfInBounds_toArray, List.set_cons_zero, List.set_cons_succ])
             refine wpAnyH_take (i := 4) (v := ?_) rfl (by kernel_rfl) (by kernel_rfl) (by kernel_rfl) (fun _ _ _ h => h) (Or.inl ⟨by kernel_rfl, ?_⟩) (by assumption) ?_
             rotate_left
             ·intro w hSw; (try dsimp only at hSw); go_simp; (try with_reducible rfl)
             (try simp only [Act.put, List.getElem_toArray, List.getElem_cons_zero, List.getElem_cons_succ, List.setIfInBounds_toArray, List.set_cons_zero, List.set_cons_succ])
             refine wpAnyH_take (i := 5) (v := ?_) rfl (by kernel_rfl) (by kernel_rfl) (by kernel_rfl) (fun _ _ _ h => h) (Or.inl ⟨by kernel_rfl, ?_⟩) (by assumption) ?_
             rotate_left
             ·intro w hSw; (try dsimp only at hSw); go_simp; (try with_reducible rfl)
             (try simp only [Act.put, List.getElem_toArray, List.getElem_cons_zero, List.getElem_cons_succ, List.setIfInBounds_toArray, List.set_cons_zero, List.set_cons_succ])
             refine wpAnyH_take (i := 6) (v := ?_) rfl (by kernel_rfl) (by kernel_rfl) (by kernel_rfl) (fun _ _ _ h => h) (Or.inl ⟨by kernel_rfl, ?_⟩) (by assumption) ?_
             rotate_left
             ·intro w hSw; (try dsimp only at hSw); go_simp; (try with_reducible rfl)
             (try simp only [Act.put, List.getElem_toArray, List.getElem_cons_zero, List.getElem_cons_succ, List.setIfInBounds_toArray, List.set_cons_zero, List.set_cons_succ])
             refine wpAnyH_take (i := 7) (v := ?_) rfl (by kernel_rfl) (by kernel_rfl) (by kernel_rfl) (fun _ _ _ h => h) (Or.inl ⟨by kernel_rfl, ?_⟩) (by assumption) ?_
             rotate_left
             ·intro w hSw; (try dsimp only at hSw); go_simp; (try with_reducible rfl)
             (try simp only [Act.put, List.getElem_toArray, List.getElem_cons_zero, List.getElem_cons_succ, List.setIfInBounds_toArray, List.set_cons_zero, List.set_cons_succ])
             refine wpAnyH_take (i := 8) (v := ?_) rfl (by kernel_rfl) (by kernel_rfl) (by kernel_rfl) (fun _ _ _ h => h) (Or.inl ⟨by kernel_rfl, ?_⟩) (by assumption) ?_
             rotate_left
             ·intro w hSw; (try dsimp only at hSw); go_simp; (try with_reducible rfl)
             (try simp only [Act.put, List.getElem_toArray, List.getElem_cons_zero, List.getElem_cons_succ, List.setIfInBounds_toArray, List.set_cons_zero, List.set_cons_succ])
             refine wpAnyH_take (i := 9) (v := ?_) rfl (by kernel_rfl) (by kernel_rfl) (by kernel_rfl) (fun _ _ _ h => h) (Or.inl ⟨by kernel_rfl, ?_⟩) (by assumption) ?_
             rotate_left
             ·intro w hSw; (try dsimp only at hSw); go_simp; (try with_reducible rfl)
             (try simp only [Act.put, List.getElem_toArray, List.getElem_cons_zero, List.getElem_cons_succ, List.setIfInBounds_toArray, List.set_cons_zero, List.set_cons_succ])
             refine wpAnyH_take (i := 10) (v := ?_) rfl (by kernel_rfl) (by kernel_rfl) (by kernel_rfl) (fun _ _ _ h => h) (Or.inl ⟨by kernel_rfl, ?_⟩) (by assumption) ?_
             rotate_left
             ·intro w hSw; (try dsimp only at hSw); go_simp; (try with_reducible rfl)
             (try simp only [Act.put, List.getElem_toArray, List.getElem_cons_zero, List.getElem_cons_succ, List.setIfInBounds_toArray, List.set_cons_zero, List.set_cons_succ])
             refine wpAnyH_take (i := 11) (v := ?_) rfl (by kernel_rfl) (by kernel_rfl) (by kernel_rfl) (fun _ _ _ h => h) (Or.inl ⟨by kernel_rfl, ?_⟩) (by assumption) ?_
             rotate_left
             ·intro w hSw; (try dsimp only at hSw); go_simp; (try with_reducible rfl)
             (try simp only [Act.put, List.getElem_toArray, List.getElem_cons_zero, List.getElem_cons_succ, List.setIfInBounds_toArray, List.set_cons_zero, List.set_cons_succ])
             refine wpAnyH_take (i := 12) (v := ?_) rfl (by kernel_rfl) (by kernel_rfl) (by kernel_rfl) (fun _ _ _ h => h) (Or.inl ⟨by kernel_rfl, ?_⟩) (by assumption) ?_
             rotate_left
             ·intro w hSw; (try dsimp only at hSw); go_simp; (try with_reducible rfl)
             (try simp only [Act.put, List.getElem_toArray, List.getElem_cons_zero, List.getElem_cons_succ, List.setIfInBounds_toArray, List.set_cons_zero, List.set_cons_succ])
             refine wpAnyH_take (i := 13) (v := ?_) rfl (by kernel_rfl) (by kernel_rfl) (by kernel_rfl) (fun _ _ _ h => h) (Or.inl ⟨by kernel_rfl, ?_⟩) (by assumption) ?_
             rotate_left
             ·intro w hSw; (try dsimp only at hSw); go_simp; (try with_reducible rfl)
             (try simp only [Act.put, List.getElem_toArray, List.getElem_cons_zero, List.getElem_cons_succ, List.setIfInBounds_toArray, List.set_cons_zero, List.set_cons_succ])
             refine wpAnyH_take (i := 14) (v := ?_) rfl (by kernel_rfl) (by kernel_rfl) (by kernel_rfl) (fun _ _ _ h => h) (Or.inl ⟨by kernel_rfl, ?_⟩) (by assumption) ?_
             rotate_left
             ·intro w hSw; (try dsimp only at hSw); go_simp; (try with_reducible rfl)
             (try simp only [Act.put, List.getElem_toArray, List.getElem_cons_zero, List.getElem_cons_succ, List.setIfInBounds_toArray, List.set_cons_zero, List.set_cons_succ])
             refine wpAnyH_take (i := 15) (v := ?_) rfl (by kernel_rfl) (by kernel_rfl) (by kernel_rfl) (fun _ _ _ h => h) (Or.inl ⟨by kernel_rfl, ?_⟩) (by assumption) ?_
             rotate_left
             ·intro w hSw; (try dsimp only at hSw); go_simp; (try with_reducible rfl)
             (try simp only [Act.put, List.getElem_toArray, List.getElem_cons_zero, List.getElem_cons_succ, List.setIfInBounds_toArray, List.set_cons_zero, List.set_cons_succ])
             refine wpAnyH_take (i := 16) (v := ?_) rfl (by kernel_rfl) (by kernel_rfl) (by kernel_rfl) (fun _ _ _ h => h) (Or.inl ⟨by kernel_rfl, ?_⟩) (by assumption) ?_
             rotate_left
             ·intro w hSw; (try dsimp only at hSw); go_simp; (try with_reducible rfl)
             (try simp only [Act.put, List.getElem_toArray, List.getElem_cons_zero, List.getElem_cons_succ, List.setIfInBounds_toArray, List.set_cons_zero, List.set_cons_succ])
             refine wpAnyH_take (i := 17) (v := ?_) rfl (by kernel_rfl) (by kernel_rfl) (by kernel_rfl) (fun _ _ _ h => h) (Or.inl ⟨by kernel_rfl, ?_⟩) (by assumption) ?_
             rotate_left
             ·intro w hSw; (try dsimp only at hSw); go_simp; (try with_reducible rfl)
             (try simp only [Act.put, List.getElem_toArray, List.getElem_cons_zero, List.getElem_cons_succ, List.setIfInBounds_toArray, List.set_cons_zero, List.set_cons_succ])
             refine wpAnyH_take (i := 18) (v := ?_) rfl (by kernel_rfl) (by kernel_rfl) (by kernel_rfl) (fun _ _ _ h => h) (Or.inl ⟨by kernel_rfl, ?_⟩) (by assumption) ?_
             rotate_left
             ·intro w hSw; (try dsimp only at hSw); go_simp; (try with_reducible rfl)
             (try simp only [Act.put, List.getElem_toArray, List.getElem_cons_zero, List.getElem_cons_succ, List.setIfInBounds_toArray, List.set_cons_zero, List.set_cons_succ])
             refine wpAnyH_ready (rs := [19]) (by kernel_rfl) (by simp) ?_
             refine AllReadyH.cons rfl (fun K hK => ?_) AllReadyH.nil
             go_simp
             go_at_call 21
             refine HSB.out.mono ?_
             rintro e w8 ⟨rfl, k8⟩
             have k9 := (Kept.refl wc).drew.trans k8
             refine hK.out _ _ ⟨k9.cell c0, k9.cell c1, k9.cell cx, k9.cell cy, k9⟩ (fun hHeld1 => ?_)
             clear hK K
             (try simp only [Act.put, List.getElem_toArray, List.getElem_cons_zero, List.getElem_cons_succ, List.setIfInBounds_toArray, List.set_cons_zero, List.set_cons_succ])
             have HK9 := Lib.hid k9
             clear hHeld0 k8 k9
             refine wpAnyH_take (i := 20) (v := ?_) rfl (by kernel_rfl) (by kernel_rfl) (by kernel_rfl) (fun _ _ _ h => h) (Or.inl ⟨by kernel_rfl, ?_⟩) (by assumption) ?_
             rotate_left
             ·intro w hSw; (try dsimp only at hSw); go_simp; (try with_reducible rfl)
             (try simp only [Act.put, List.getElem_toArray, List.getElem_cons_zero, List.getElem_cons_succ, List.setIfInBounds_toArray, List.set_cons_zero, List.set_cons_succ])
             refine wpAnyH_take (i := 21) (v := ?_) rfl (by kernel_rfl) (by kernel_rfl) (by kernel_rfl) (fun _ _ _ h => h) (Or.inl ⟨by kernel_rfl, ?_⟩) (by assumption) ?_
             rotate_left
             ·intro w hSw; (try dsimp only at hSw); go_simp; (try with_reducible rfl)
             (try simp only [Act.put, List.getElem_toArray, List.getElem_cons_zero, List.getElem_cons_succ, List.setIfInBounds_toArray, List.set_cons_zero, List.set_cons_succ])
             refine wpAnyH_take (i := 22) (v := ?_) rfl (by kernel_rfl) (by kernel_rfl) (by kernel_rfl) (fun _ _ _ h => h) (Or.inl ⟨by kernel_rfl, ?_⟩) (by assumption) ?_
             rotate_left
             ·intro w hSw; (try dsimp only at hSw); go_simp; (try with_reducible rfl)
             (try simp only [Act.put, List.getElem_toArray, List.getElem_cons_zero, List.getElem_cons_succ, List.setIfInBounds_toArray, List.set_cons_zero, List.set_cons_succ])
             refine wpAnyH_take (i := 23) (v := ?_) rfl (by kernel_rfl) (by kernel_rfl) (by kernel_rfl) (fun _ _ _ h => h) (Or.inl ⟨by kernel_rfl, ?_⟩) (by assumption) ?_
             rotate_left
             ·intro w hSw; (try dsimp only at hSw); go_simp; (try with_reducible rfl)
             (try simp only [Act.put, List.getElem_toArray, List.getElem_cons_zero, List.getElem_cons_succ, List.setIfInBounds_toArray, List.set_cons_zero, List.set_cons_succ])
             refine wpAnyH_take (i := 24) (v := ?_) rfl (by kernel_rfl) (by kernel_rfl) (by kernel_rfl) (fun _ _ _ h => h) (Or.inl ⟨by kernel_rfl, ?_⟩) (by assumption) ?_
             rotate_left
             ·intro w hSw; (try dsimp only at hSw); go_simp; (try with_reducible rfl)
             (try simp only [Act.put, List.getElem_toArray, List.getElem_cons_zero, List.getElem_cons_succ, List.setIfInBounds_toArray, List.set_cons_zero, List.set_cons_succ])
             refine wpAnyH_take (i := 25) (v := ?_) rfl (by kernel_rfl) (by kernel_rfl) (by kernel_rfl) (fun _ _ _ h => h) (Or.inl ⟨by kernel_rfl, ?_⟩) (by assumption) ?_
             rotate_left
             ·intro w hSw; (try dsimp only at hSw); go_simp; (try with_reducible rfl)
             (try simp only [Act.put, List.getElem_toArray, List.getElem_cons_zero, List.getElem_cons_succ, List.setIfInBounds_toArray, List.set_cons_zero, List.set_cons_succ])
             refine wpAnyH_take (i := 26) (v := ?_) rfl (by kernel_rfl) (by kernel_rfl) (by kernel_rfl) (fun _ _ _ h => h) (Or.inl ⟨by kernel_rfl, ?_⟩) (by assumption) ?_
             rotate_left
             ·intro w hSw; (try dsimp only at hSw); go_simp; (try with_reducible rfl)
             (try simp only [Act.put, List.getElem_toArray, List.getElem_cons_zero, List.getElem_cons_succ, List.setIfInBounds_toArray, List.set_cons_zero, List.set_cons_succ])
             refine wpAnyH_take (i := 27) (v := ?_) rfl (by kernel_rfl) (by kernel_rfl) (by kernel_rfl) (fun _ _ _ h => h) (Or.inl ⟨by kernel_rfl, ?_⟩) (by assumption) ?_
             rotate_left
             ·intro w hSw; (try dsimp only at hSw); go_simp; (try with_reducible rfl)
             (try simp only [Act.put, List.getElem_toArray, List.getElem_cons_zero, List.getElem_cons_succ, List.setIfInBounds_toArray, List.set_cons_zero, List.set_cons_succ])
             refine wpAnyH_ready (rs := [28]) (by kernel_rfl) (by simp) ?_
             refine AllReadyH.cons rfl (fun K hK => ?_) AllReadyH.nil
             go_simp
             go_at_call 37
             refine (HCY.out _ HK9.out).mono ?_
             rintro e w10 ⟨rfl, k10⟩
             have k11 := HK9.out.trans k10
             refine hK.out _ _ ⟨k11.cell c0, k11.cell c1, k11.cell cx, k11.cell cy, k11⟩ (fun hHeld2 => ?_)
             clear hK K
             (try simp only [Act.put, List.getElem_toArray, List.getElem_cons_zero, List.getElem_cons_succ, List.setIfInBounds_toArray, List.set_cons_zero, List.set_cons_succ])
             refine wpAnyH_take (i := 29) (v := ?_) rfl (by kernel_rfl) (by kernel_rfl) (by kernel_rfl) (fun _ _ _ h => h) (Or.inl ⟨by kernel_rfl, ?_⟩) (by assumption) ?_
             rotate_left
             ·intro w hSw; (try dsimp only at hSw); go_simp; (try with_reducible rfl)
             (try simp only [Act.put, List.getElem_toArray, List.getElem_cons_zero, List.getElem_cons_succ, List.setIfInBounds_toArray, List.set_cons_zero, List.set_cons_succ])
             refine wpAnyH_take (i := 30) (v := ?_) rfl (by kernel_rfl) (by kernel_rfl) (by kernel_rfl) (fun _ _ _ h => h) (Or.inl ⟨by kernel_rfl, ?_⟩) (by assumption) ?_
             rotate_left
             ·intro w hSw; (try dsimp only at hSw); go_simp; (try with_reducible rfl)
             (try simp only [Act.put, List.getElem_toArray, List.getElem_cons_zero, List.getElem_cons_succ, List.setIfInBounds_toArray, List.set_cons_zero, List.set_cons_succ])
             refine wpAnyH_done (by kernel_rfl) ?_ _
             have HK11 := Lib.hid (HKC.out.trans k11)
             clear hHeld1 hHeld2 c0 c1 cx cy k10 k11
             go_wp2_with fail
             go_roundw
             case rel => (first | exact ⟨j + 1, by go_num, by omega, HK11.out⟩ | ((repeat apply Exists.intro); exact ⟨⟨j + 1, by go_num, by omega, HK11.out⟩, rfl⟩))
             case measure => simp [intOf]; omega
           ·have hjlI : ¬ (j : Int) < (A.length : Int) := by omega
            have HKX := Lib.hid (HKV.out.trans HKC.out)
            have HMI3 := Lib.hid (pairs_kept HMI2.out HKC.out)
            have HIM := Lib.hid (show Inside t L from fun p hp => by rw [HN.out]; exact HLN.out p hp)
            have hL30 : L.length ≤ 30 := by have := HLL.out; omega
            go_wp2_with fail
            go_loopw [12] (fun q wr => ∃ j : Nat, q = .int .i64 j ∧ j ≤ L.length ∧ Kept wc wr ∧ Hid (∀ p ∈ L.take j, Tab.closed t L p.1 p.2 = true)) (fun q wr => L.length - (intOf q).toNat)
            case atStart => exact ⟨0, rfl, Nat.zero_le _, Kept.refl _, Lib.hid (fun p hp => by simp at hp)⟩
            case round =>
             obtain ⟨j2, rfl, hj2, hkd, HCD⟩ := hrel
             obtain ⟨wd, rfl⟩ : ∃ wd, wd = wr := ⟨_, rfl⟩
             have HKD := Lib.hid hkd
             clear hkd
             by_cases hjl2 : j2 < L.length
             ·have hjlI2 : (j2 : Int) < (L.length : Int) := by omega
              have hx : L[j2]? = some L[j2] := List.getElem?_eq_getElem hjl2
              generalize L[j2] = p at hx
              obtain ⟨x, y⟩ := p
              have HX := Lib.hid hx
              obtain ⟨hxn, hyn⟩ := HLN.out (x, y) (List.mem_of_getElem? hx)
              dsimp only at hxn hyn
              obtain ⟨_, _, eP, gP1, gP2, gP⟩ := pairs_kept HMI3.out HKD.out
              injection eP with eP1 eP2 eP3
              subst eP1 eP3
              obtain ⟨pb, po, rfl, c0, c1⟩ := gP j2 _ hx
              dsimp only at c0 c1
              unfold maxLen at gP2
              have HCC := Lib.hid (HCL.out L (some ⟨pb, po, none⟩) mc x y wd (HKX.out.trans HKD.out) (pairs_kept HMI3.out HKD.out) HIM.out hxn hyn)
              obtain ⟨r, hr⟩ : ∃ r, Tab.closed t L x y = r := ⟨_, rfl⟩
              rw [hr] at HCC
              have HRR := Lib.hid hr
              clear gP eP2 hx hr
              go_wp2_with fail
              refine HCC.out.mono ?_
              rintro e w12 ⟨rfl, k12⟩
              have HK12 := Lib.hid (HKD.out.trans k12)
              have HKW12 := Lib.hid ((HKX.out.trans HKD.out).trans k12)
              clear k12 c0 c1
              cases r with
              | false =>
               go_wp2_with fail
               go_ret
               exact ⟨rfl, HKW12.out⟩
              | true =>
               have HN6 := Lib.hid (show ∀ p ∈ L.take (j2 + 1), Tab.closed t L p.1 p.2 = true by
                intro p hp
                rw [List.take_add_one, HX.out] at hp
                rcases List.mem_append.1 hp with e | e
                ·exact HCD.out p e
                ·obtain rfl : p = (x, y) := by simpa using e
                 exact HRR.out)
               go_wp2_with fail
               go_roundw
               case rel => (first | exact ⟨j2 + 1, by go_num, by omega, HK12.out, HN6⟩ | ((repeat apply Exists.intro); exact ⟨⟨j2 + 1, by go_num, by omega, HK12.out, HN6⟩, rfl⟩))
               case measure => simp [intOf]; omega
             ·have hjlI2 : ¬ (j2 : Int) < (L.length : Int) := by omega
              have HCA := Lib.hid (show ∀ p ∈ L, Tab.closed t L p.1 p.2 = true by
               have := HCD.out
               rwa [List.take_of_length_le (by omega)] at this)
              have HGA := Lib.hid (fun p (hp : p ∈ L) => HMG.out L HLN.out HCA.out p hp)
              have HKY := Lib.hid (HKX.out.trans HKD.out)
              have HMI4 := Lib.hid (pairs_kept HMI3.out HKD.out)
              go_wp2_with fail
              go_loopw [13] (fun q wr => ∃ j : Nat, q = .int .i64 j ∧ j ≤ L.length ∧ Kept wd wr) (fun q wr => L.length - (intOf q).toNat)
              case atStart => exact ⟨0, rfl, Nat.zero_le _, Kept.refl _⟩
              case round =>
               obtain ⟨j3, rfl, hj3, hke⟩ := hrel
               obtain ⟨we, rfl⟩ : ∃ we, we = wr := ⟨_, rfl⟩
               have HKE := Lib.hid hke
               clear hke
               by_cases hjl3 : j3 < L.length
               ·have hjlI3 : (j3 : Int) < (L.length : Int) := by omega
                have hx : L[j3]? = some L[j3] := List.getElem?_eq_getElem hjl3
                generalize L[j3] = p at hx
                obtain ⟨x, y⟩ := p
                have hg := HGA.out (x, y) (List.mem_of_getElem? hx)
                obtain ⟨hxn, hyn⟩ := HLN.out (x, y) (List.mem_of_getElem? hx)
                dsimp only at hxn hyn hg
                obtain ⟨_, _, eP, gP1, gP2, gP⟩ := pairs_kept HMI4.out HKE.out
                injection eP with eP1 eP2 eP3
                subst eP1 eP3
                obtain ⟨pb, po, rfl, c0, c1⟩ := gP j3 _ hx
                dsimp only at c0 c1
                unfold maxLen at gP2
                obtain ⟨_, _, et, _, _, hat⟩ := tab_kept HT.out (HKY.out.trans HKE.out)
                obtain ⟨tb, to, e1, cx, _⟩ := hat x _ (HNM.out x hxn)
                obtain ⟨tb', to', e2, cy, _⟩ := hat y _ (HNM.out y hyn)
                injection et with et1 et2 et3
                subst et1
                rw [e1] at e2
                injection e2 with e2
                injection e2 with e2 e3
                subst e2 e3 e1
                have hxI : (x : Int) < (i : Int) := by omega
                have hyI : (y : Int) < (i : Int) := by omega
                have HGG := Lib.hid (HGO.out (Tab.nth t x).name (Tab.nth t y).name (HNS.out x hxn) (HNS.out y hyn) we.drew (HKY.out.trans HKE.out).drew)
                rw [hg] at HGG
                generalize (Tab.nth t x).name = sx at cx HGG
                generalize (Tab.nth t y).name = sy at cy HGG
                clear et2 et3 hat gP eP2 hx hg
                go_wp2_with fail
                go_still_tail 19, (by kernel_rfl)
                change wpList _ _ _ _ _ we.drew
                clear cx cy c0 c1
                go_wp2_with fail
                refine HGG.out.mono ?_
                rintro e w14 ⟨rfl, k14⟩
                have HK14 := Lib.hid (HKE.out.drew.trans k14)
                clear k14
                go_wp2_with fail
                go_roundw
                case rel => (first | exact ⟨j3 + 1, by go_num, by omega, HK14.out⟩ | ((repeat apply Exists.intro); exact ⟨⟨j3 + 1, by go_num, by omega, HK14.out⟩, rfl⟩))
                case measure => simp [intOf]; omega
               ·have hjlI3 : ¬ (j3 : Int) < (L.length : Int) := by omega
                have HKZ := Lib.hid (HKY.out.trans HKE.out)
                go_wp2_with fail
                go_ret
                exact ⟨rfl, HKZ.out⟩
    ·have hb : (fa == 0) = false := by simpa using z2
     subst z1
     clear z2
     go_wp2_with fail
     go_ret
     exact ⟨rfl, HK3.out⟩
   ·have hb : (fe == 0) = false := by simpa using z1
    clear z1
    go_wp2_with fail
    go_ret
    exact ⟨rfl, HK3.out⟩
end Go.Proofs.YthooiofaicdhgaaGreatDoor
