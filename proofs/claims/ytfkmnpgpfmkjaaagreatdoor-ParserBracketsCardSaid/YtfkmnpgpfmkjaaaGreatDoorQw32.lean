/- SameNode at two trees that are the same (as in Nsa): true. -/
import Derived.Test.YtfkmnpgpfmkjaaaGreatDoorQy29
import Derived.Test.YtfkmnpgpfmkjaaaGreatDoorQw31
import Derived.Test.YtfkmnpgpfmkjaaaGreatDoorQw3
import Derived.Test.YtfkmnpgpfmkjaaaGreatDoorQw28
set_option linter.unusedSimpArgs false
set_option linter.unusedVariables false
set_option maxRecDepth 100000
namespace Go.Proofs.YtfkmnpgpfmkjaaaGreatDoor
open Go.ChangeShapes Go.WideShapes Go.ChangeAt Go.RowKit Go.Shelf
attribute [local go_sem] Oper.semAt_some
set_option maxHeartbeats 8000000 in
theorem sameN_c (x : Nd) : ∀ (ad : Option Addr) (ck : Nat) (bd : Option Addr) (dk : Nat) (w : World), KidsAt w (.slice ad x.kids.length ck) x.kids → KidsAt w (.slice bd x.kids.length dk) x.kids →
  Calls Tryz.prog 17 #[ndV x (.slice ad x.kids.length ck), ndV x (.slice bd x.kids.length dk)] w fun e w' => e = .returned (.bool true) ∧ Kept w w' := by
 refine Nd.ind (P := fun x => ∀ (ad : Option Addr) (ck : Nat) (bd : Option Addr) (dk : Nat) (w : World), KidsAt w (.slice ad x.kids.length ck) x.kids → KidsAt w (.slice bd x.kids.length dk) x.kids →
  Calls Tryz.prog 17 #[ndV x (.slice ad x.kids.length ck), ndV x (.slice bd x.kids.length dk)] w fun e w' => e = .returned (.bool true) ∧ Kept w w') (fun x ih ad ck bd dk w hk hk2 => ?_) x
 obtain ⟨W1, hW1⟩ : ∃ W1, (w.alloc (.cells #[.int .i64 x.kind, .string x.text, .string x.typ, .string x.frm, .int .i64 x.n, .slice ad x.kids.length ck] 25)).alloc (.cells #[.int .i64 x.kind, .string x.text, .string x.typ, .string x.frm, .int .i64 x.n, .slice bd x.kids.length dk] 25) = W1 := ⟨_, rfl⟩
 have k1 : Kept w W1 := by rw [← hW1]; exact ((Kept.refl w).alloc _).alloc _
 have ha : Blk W1 w.heap.size 25 (ndC x (.slice ad x.kids.length ck)).toArray := by rw [← hW1]; exact (Blk.new _ _ _).alloc _
 have hb : Blk W1 (w.heap.size + 1) 25 (ndC x (.slice bd x.kids.length dk)).toArray := by rw [← hW1]; exact Blk.at (by simp)
 have hcap : x.kids.length ≤ maxLen := Row.len hk
 obtain ⟨_, _, e0, _, _, hat⟩ := KidsD.kept hk k1
 injection e0 with e1 e2 e3
 subst e1 e3
 clear e2
 obtain ⟨_, _, e0, _, _, hbt⟩ := KidsD.kept hk2 k1
 injection e0 with e1 e2 e3
 subst e1 e3
 clear e2
 have HAT := Lib.hid hat
 have HBT := Lib.hid hbt
 have HA := Lib.hid ha
 have HB := Lib.hid hb
 have HIH := Lib.hid ih
 have HW1 := Lib.hid hW1
 have HK1 := Lib.hid k1
 obtain ⟨l, hl⟩ : ∃ l, x.kids = l := ⟨_, rfl⟩
 rw [hl] at HAT HBT HA HB HIH HW1 hcap ⊢
 have a0 := HA.out.cell 0
 have a1 := HA.out.cell 1
 have a2 := HA.out.cell 2
 have a3 := HA.out.cell 3
 have a4 := HA.out.cell 4
 have a5 := HA.out.cell 5
 have b0 := HB.out.cell 0
 have b1 := HB.out.cell 1
 have b2 := HB.out.cell 2
 have b3 := HB.out.cell 3
 have b4 := HB.out.cell 4
 have b5 := HB.out.cell 5
 simp only [ndC, List.getElem?_toArray, List.getElem?_cons_zero, List.getElem?_cons_succ] at a0 a1 a2 a3 a4 a5 b0 b1 b2 b3 b4 b5
 clear hat hbt ha hb ih hW1 k1 hk hk2 hl
 unfold maxLen at hcap
 go_enter Tryz.func17, Tryz.ntmps17
 go_wp2_with (rw [HW1.out])
 clear a0 a1 a2 a3 a4 a5 b0 b1 b2 b3 b4 b5
 go_loopw [5] (fun i wr => ∃ k : Nat, i = .int .i64 k ∧ k ≤ l.length ∧ Kept W1 wr) (fun i wr => l.length - (intOf i).toNat)
 case atStart => exact ⟨0, rfl, Nat.zero_le _, Kept.refl _⟩
 case round =>
  obtain ⟨k, rfl, hkl, hkp⟩ := hrel
  have a5 := (HA.out.kept hkp).cell 5
  have b5 := (HB.out.kept hkp).cell 5
  simp only [ndC, List.getElem?_toArray, List.getElem?_cons_zero, List.getElem?_cons_succ] at a5 b5
  have HK := Lib.hid hkp
  by_cases hlt : k < l.length
  ·have hltI : (k : Int) < (l.length : Int) := by omega
   have hx : l[k]? = some l[k] := List.getElem?_eq_getElem hlt
   generalize hy : l[k] = y at hx
   obtain ⟨b, o, rfl, hn⟩ := HAT.out k y hx
   obtain ⟨b', o', rfl, hn'⟩ := HBT.out k y hx
   obtain ⟨ya, yc, ⟨n0, n1, n2, n3, n4, n5⟩, _, hyk, _⟩ := (hn.kept hkp).cells
   obtain ⟨za, zc, ⟨m0, m1, m2, m3, m4, m5⟩, _, hzk, _⟩ := (hn'.kept hkp).cells
   have HC := Lib.hid (fun W (k2 : Kept wr W) => HIH.out y (List.mem_of_getElem? hx) ya yc za zc W (KidsD.kept hyk k2) (KidsD.kept hzk k2))
   clear hx hy hn hn' hyk hzk hkp
   have HH := Lib.hid (show ∀ W, Kept wr W → (fun W => W.cell? ⟨w.heap.size, 5, none⟩ = some (.slice (some ⟨b, o, none⟩) l.length ck) ∧ W.cell? ⟨w.heap.size + 1, 5, none⟩ = some (.slice (some ⟨b', o', none⟩) l.length dk) ∧
    W.cell? ⟨b, o + k * 6, none⟩ = some (.int .i64 y.kind) ∧ W.cell? ⟨b, o + k * 6 + 1, none⟩ = some (.string y.text) ∧ W.cell? ⟨b, o + k * 6 + 2, none⟩ = some (.string y.typ) ∧ W.cell? ⟨b, o + k * 6 + 3, none⟩ = some (.string y.frm) ∧ W.cell? ⟨b, o + k * 6 + 4, none⟩ = some (.int .i64 y.n) ∧ W.cell? ⟨b, o + k * 6 + 5, none⟩ = some (.slice ya y.kids.length yc) ∧
    W.cell? ⟨b', o' + k * 6, none⟩ = some (.int .i64 y.kind) ∧ W.cell? ⟨b', o' + k * 6 + 1, none⟩ = some (.string y.text) ∧ W.cell? ⟨b', o' + k * 6 + 2, none⟩ = some (.string y.typ) ∧ W.cell? ⟨b', o' + k * 6 + 3, none⟩ = some (.string y.frm) ∧ W.cell? ⟨b', o' + k * 6 + 4, none⟩ = some (.int .i64 y.n) ∧ W.cell? ⟨b', o' + k * 6 + 5, none⟩ = some (.slice za y.kids.length zc) ∧ Kept wr W) W
    from fun W k => ⟨k.cell a5, k.cell b5, k.cell n0, k.cell n1, k.cell n2, k.cell n3, k.cell n4, k.cell n5, k.cell m0, k.cell m1, k.cell m2, k.cell m3, k.cell m4, k.cell m5, k⟩)
   have hz : (k : Int).toNat = k := by simp
   go_wp2_with fail
   refine wp_region_held_drew (S := fun W => W.cell? ⟨w.heap.size, 5, none⟩ = some (.slice (some ⟨b, o, none⟩) l.length ck) ∧ W.cell? ⟨w.heap.size + 1, 5, none⟩ = some (.slice (some ⟨b', o', none⟩) l.length dk) ∧
    W.cell? ⟨b, o + k * 6, none⟩ = some (.int .i64 y.kind) ∧ W.cell? ⟨b, o + k * 6 + 1, none⟩ = some (.string y.text) ∧ W.cell? ⟨b, o + k * 6 + 2, none⟩ = some (.string y.typ) ∧ W.cell? ⟨b, o + k * 6 + 3, none⟩ = some (.string y.frm) ∧ W.cell? ⟨b, o + k * 6 + 4, none⟩ = some (.int .i64 y.n) ∧ W.cell? ⟨b, o + k * 6 + 5, none⟩ = some (.slice ya y.kids.length yc) ∧
    W.cell? ⟨b', o' + k * 6, none⟩ = some (.int .i64 y.kind) ∧ W.cell? ⟨b', o' + k * 6 + 1, none⟩ = some (.string y.text) ∧ W.cell? ⟨b', o' + k * 6 + 2, none⟩ = some (.string y.typ) ∧ W.cell? ⟨b', o' + k * 6 + 3, none⟩ = some (.string y.frm) ∧ W.cell? ⟨b', o' + k * 6 + 4, none⟩ = some (.int .i64 y.n) ∧ W.cell? ⟨b', o' + k * 6 + 5, none⟩ = some (.slice za y.kids.length zc) ∧ Kept wr W) (by kernel_rfl) (HH.out _ (Kept.refl wr).drew) (fun hHeld0 => ?_)
   clear a5 b5 n0 n1 n2 n3 n4 n5 m0 m1 m2 m3 m4 m5
   refine wpAnyH_take (i := 0) (v := ?_) rfl (by kernel_rfl) (by kernel_rfl) (by kernel_rfl) (fun _ _ _ h => h) (Or.inl ⟨by kernel_rfl, ?_⟩) (by assumption) ?_
   rotate_left
   ·intro w hSw; (try dsimp only at hSw); go_simp; (try with_reducible rfl)
   (try simp only [Act.put, List.getElem_toArray, List.getElem_cons_zero, List.getElem_cons_succ, List.setIfInBounds_toArray, List.set_cons_zero, List.set_cons_succ])
   refine wpAnyH_take (i := 1) (v := ?_) rfl (by kernel_rfl) (by kernel_rfl) (by kernel_rfl) (fun _ _ _ h => h) (Or.inl ⟨by kernel_rfl, ?_⟩) (by assumption) ?_
   rotate_left
   ·intro w hSw; (try dsimp only at hSw); go_simp; (try with_reducible rfl)
   (try simp only [Act.put, List.getElem_toArray, List.getElem_cons_zero, List.getElem_cons_succ, List.setIfInBounds_toArray, List.set_cons_zero, List.set_cons_succ])
   refine wpAnyH_take (i := 2) (v := ?_) rfl (by kernel_rfl) (by kernel_rfl) (by kernel_rfl) (fun _ _ _ h => h) (Or.inl ⟨by kernel_rfl, ?_⟩) (by assumption) ?_
   rotate_left
   ·intro w hSw; (try dsimp only at hSw); go_simp; (try with_reducible rfl)
   (try simp only [Act.put, List.getElem_toArray, List.getElem_cons_zero, List.getElem_cons_succ, List.setIfInBounds_toArray, List.set_cons_zero, List.set_cons_succ])
   refine wpAnyH_take (i := 3) (v := ?_) rfl (by kernel_rfl) (by kernel_rfl) (by kernel_rfl) (fun _ _ _ h => h) (Or.inl ⟨by kernel_rfl, ?_⟩) (by assumption) ?_
   rotate_left
   ·intro w hSw; (try dsimp only at hSw); go_simp; (try with_reducible rfl)
   (try simp only [Act.put, List.getElem_toArray, List.getElem_cons_zero, List.getElem_cons_succ, List.setIfInBounds_toArray, List.set_cons_zero, List.set_cons_succ])
   refine wpAnyH_take (i := 4) (v := ?_) rfl (by kernel_rfl) (by kernel_rfl) (by kernel_rfl) (fun _ _ _ h => h) (Or.inl ⟨by kernel_rfl, ?_⟩) (by assumption) ?_
   rotate_left
   ·intro w hSw; (try dsimp only at hSw); go_simp; (try with_reducible rfl)
   (try simp only [Act.put, List.getElem_toArray, List.getElem_cons_zero, List.getElem_cons_succ, List.setIfInBounds_toArray, List.set_cons_zero, List.set_cons_succ])
   refine wpAnyH_take (i := 5) (v := ?_) rfl (by kernel_rfl) (by kernel_rfl) (by kernel_rfl) (fun _ _ _ h => h) (Or.inl ⟨by kernel_rfl, ?_⟩) (by assumption) ?_
   rotate_left
   ·intro w hSw; (try dsimp only at hSw); go_simp; (try with_reducible rfl)
   (try simp only [Act.put, List.getElem_toArray, List.getElem_cons_zero, List.getElem_cons_succ, List.setIfInBounds_toArray, List.set_cons_zero, List.set_cons_succ])
   refine wpAnyH_take (i := 6) (v := ?_) rfl (by kernel_rfl) (by kernel_rfl) (by kernel_rfl) (fun _ _ _ h => h) (Or.inl ⟨by kernel_rfl, ?_⟩) (by assumption) ?_
   rotate_left
   ·intro w hSw; (try dsimp only at hSw); go_simp; (try with_reducible rfl)
   (try simp only [Act.put, List.getElem_toArray, List.getElem_cons_zero, List.getElem_cons_succ, List.setIfInBounds_toArray, List.set_cons_zero, List.set_cons_succ])
   refine wpAnyH_take (i := 7) (v := ?_) rfl (by kernel_rfl) (by kernel_rfl) (by kernel_rfl) (fun _ _ _ h => h) (Or.inl ⟨by kernel_rfl, ?_⟩) (by assumption) ?_
   rotate_left
   ·intro w hSw; (try dsimp only at hSw); go_simp; (try with_reducible rfl)
   (try simp only [Act.put, List.getElem_toArray, List.getElem_cons_zero, List.getElem_cons_succ, List.setIfInBounds_toArray, List.set_cons_zero, List.set_cons_succ])
   refine wpAnyH_take (i := 8) (v := ?_) rfl (by kernel_rfl) (by kernel_rfl) (by kernel_rfl) (fun _ _ _ h => h) (Or.inl ⟨by kernel_rfl, ?_⟩) (by assumption) ?_
   rotate_left
   ·intro w hSw; (try dsimp only at hSw); go_simp; (try with_reducible rfl)
   (try simp only [Act.put, List.getElem_toArray, List.getElem_cons_zero, List.getElem_cons_succ, List.setIfInBounds_toArray, List.set_cons_zero, List.set_cons_succ])
   refine wpAnyH_take (i := 9) (v := ?_) rfl (by kernel_rfl) (by kernel_rfl) (by kernel_rfl) (fun _ _ _ h => h) (Or.inl ⟨by kernel_rfl, ?_⟩) (by assumption) ?_
   rotate_left
   ·intro w hSw; (try dsimp only at hSw); go_simp; (try with_reducible rfl)
   (try simp only [Act.put, List.getElem_toArray, List.getElem_cons_zero, List.getElem_cons_succ, List.setIfInBounds_toArray, List.set_cons_zero, List.set_cons_succ])
   refine wpAnyH_ready (rs := [10]) (by kernel_rfl) (by simp) ?_
   refine AllReadyH.cons rfl (fun K hK => ?_) AllReadyH.nil
   go_simp
   go_at_call 17
   refine (HC.out _ (Kept.refl wr).drew).mono ?_
   rintro e w2 ⟨rfl, k2⟩
   replace k2 := Lib.hid ((Kept.refl wr).drew.trans k2)
   refine hK.out _ _ (HH.out _ k2.out) (fun hHeld1 => ?_)
   clear hK K
   (try simp only [Act.put, List.getElem_toArray, List.getElem_cons_zero, List.getElem_cons_succ, List.setIfInBounds_toArray, List.set_cons_zero, List.set_cons_succ])
   clear hHeld0
   refine wpAnyH_take (i := 11) (v := ?_) rfl (by kernel_rfl) (by kernel_rfl) (by kernel_rfl) (fun _ _ _ h => h) (Or.inl ⟨by kernel_rfl, ?_⟩) (by assumption) ?_
   rotate_left
   ·intro w hSw; (try dsimp only at hSw); go_simp; (try with_reducible rfl)
   (try simp only [Act.put, List.getElem_toArray, List.getElem_cons_zero, List.getElem_cons_succ, List.setIfInBounds_toArray, List.set_cons_zero, List.set_cons_succ])
   refine wpAnyH_done (by kernel_rfl) ?_ _
   go_wp2_with fail
   go_roundw
   case rel => exact ⟨k + 1, by go_num, by omega, HK.out.trans k2.out⟩
   case measure => simp [intOf]; omega
  ·obtain rfl : k = l.length := by omega
   have hltI : ¬ (l.length : Int) < (l.length : Int) := by omega
   clear hkp
   go_wp2_with fail
   go_ret
   exact ⟨rfl, HK1.out.trans HK.out⟩
end Go.Proofs.YtfkmnpgpfmkjaaaGreatDoor
namespace Go.Proofs.YtfkmnpgpfmkjaaaGreatDoor
open Go.ChangeShapes Go.WideShapes Go.ChangeAt Go.RowKit Go.Shelf
attribute [local go_sem] Oper.semAt_some
/-- All that the walks read of the tables. -/
structure PTab (w : World) : Prop where
 tb : Tb w
 er : Er w
 so : Sorts w
theorem PTab.kept {w w' : World} (h : PTab w) (k : Kept w w') : PTab w' := ⟨h.tb.kept k, h.er.kept k, by obtain ⟨t, fr, h⟩ := h.so; exact ⟨t, fr, (k.block _ (Array.getElem?_eq_some_iff.1 h).1).trans h⟩⟩
/-- A tree that was made: v is its kids' slice. -/
structure Mk (w : World) (x : Nd) (v : Value) : Prop where
 ok : x.ok1
 kids : ∃ a c, v = .slice a x.kids.length c ∧ KidsAt w (.slice a x.kids.length c) x.kids
theorem Mk.kept {w w' : World} {x : Nd} {v : Value} (h : Mk w x v) (k : Kept w w') : Mk w' x v := ⟨h.ok, by obtain ⟨a, c, e, h2⟩ := h.kids; exact ⟨a, c, e, KidsD.kept h2 k⟩⟩
/-- Kids that were made at once. -/
def Ks (w : World) (v : Value) (l : List Nd) : Prop := ∃ a c, v = .slice a l.length c ∧ KidsAt w (.slice a l.length c) l
theorem Ks.kept {w w' : World} {l : List Nd} {v : Value} (h : Ks w v l) (k : Kept w w') : Ks w' v l := by obtain ⟨a, c, e, h2⟩ := h; exact ⟨a, c, e, KidsD.kept h2 k⟩
theorem Ks.nil (w : World) : Ks w (.slice none 0 0) [] := ⟨none, 0, rfl, Row.nil⟩
theorem lit_kids {X : World} (ks : List (Nd × Value)) {cs : Array Value} {g n : Nat} (hg : g = X.heap.size) (hn : n = ks.length) (hcs : cs = (ks.flatMap fun p => ndC p.1 p.2).toArray) (hm : ks.length ≤ 100) (h : ∀ q ∈ ks, Mk X q.1 q.2) :
  Ks (X.alloc (.cells cs nT)) (.slice (some ⟨g, 0, none⟩) n n) (ks.map (·.1)) := by
 subst hg hn hcs
 have hl := flat_len (fun p : Nd × Value => ndC p.1 p.2) ndC_len ks
 have hb : Blk (X.alloc (.cells (ks.flatMap fun p => ndC p.1 p.2).toArray nT)) X.heap.size nT (ks.flatMap fun p => ndC p.1 p.2).toArray := Blk.new _ _ _
 refine ⟨_, ks.length, by rw [List.length_map], _, _, rfl, by rw [List.length_map]; exact Nat.le_refl _, by unfold maxLen; omega, fun i y hy => ⟨X.heap.size, 0, rfl, ?_⟩⟩
 rw [List.getElem?_map] at hy
 obtain ⟨q, hq, rfl⟩ := Option.map_eq_some_iff.1 hy
 obtain ⟨hok, a, c, e, hk⟩ := h q (List.mem_of_getElem? hq)
 refine NdD.shut (ad := a) (c := c) (fun j u hu => ?_) hok (KidsD.kept hk ((Kept.refl X).alloc _)) trivial
 rw [← e] at hu
 have hj : j < 6 := by
  rcases Nat.lt_or_ge j 6 with h | h
  ·exact h
  ·rw [List.getElem?_eq_none (by rw [ndC_len]; exact h)] at hu; cases hu
 rw [hb.cell]
 have := (flat_at (fun p : Nd × Value => ndC p.1 p.2) ndC_len ks i j q hq hj).trans hu
 simpa [Nat.add_assoc] using this
theorem pnode_c (k : Int) (t : ByteArray) (a : Option Addr) (n c : Nat) (w : World) : Calls Tryz.prog 9 #[.int .i64 k, .string t, .slice a n c] w fun e w' => e = .returned (.agg #[.int .i64 k, .string t, .string ⟨#[]⟩, .string ⟨#[]⟩, .int .i64 0, .slice a n c]) ∧ Kept w w' := by
 go_enter Tryz.func9, Tryz.ntmps9
 go_wp2_with fail
 exact bodyPost_ret (nd_results (x := .mk k t ⟨#[]⟩ ⟨#[]⟩ 0 []) (v := .slice a n c) (by rfl) _ _ rfl (Blk.new _ _ _)) rfl ⟨rfl, (Kept.refl w).alloc _⟩
theorem ptyped_c (k : Int) (t y : ByteArray) (a : Option Addr) (n c : Nat) (w : World) : Calls Tryz.prog 12 #[.int .i64 k, .string t, .string y, .slice a n c] w fun e w' => e = .returned (.agg #[.int .i64 k, .string t, .string y, .string ⟨#[]⟩, .int .i64 0, .slice a n c]) ∧ Kept w w' := by
 go_enter Tryz.func12, Tryz.ntmps12
 go_wp2_with fail
 exact bodyPost_ret (nd_results (x := .mk k t y ⟨#[]⟩ 0 []) (v := .slice a n c) (by rfl) _ _ rfl (Blk.new _ _ _)) rfl ⟨rfl, (Kept.refl w).alloc _⟩
theorem pnumber_c (k : Int) (w : World) : Calls Tryz.prog 11 #[.int .i64 k] w fun e w' => e = .returned (.agg #[.int .i64 7, .string ⟨#[]⟩, .string ⟨#[]⟩, .string ⟨#[]⟩, .int .i64 k, .slice none 0 0]) ∧ Kept w w' := by
 go_enter Tryz.func11, Tryz.ntmps11
 go_wp2_with fail
 exact bodyPost_ret (nd_results (x := .mk 7 ⟨#[]⟩ ⟨#[]⟩ ⟨#[]⟩ k []) (v := .slice none 0 0) (by rfl) _ _ rfl (Blk.new _ _ _)) rfl ⟨rfl, (Kept.refl w).alloc _⟩
theorem pnamed_c (t : ByteArray) (w : World) : Calls Tryz.prog 10 #[.string t] w fun e w' => e = .returned (.agg #[.int .i64 14, .string t, .string ⟨#[]⟩, .string ⟨#[]⟩, .int .i64 0, .slice none 0 0]) ∧ Kept w w' := by
 obtain ⟨W0, hW0⟩ : ∃ W, w.alloc (.cells pzN nT) = W := ⟨_, rfl⟩
 have k0 : Kept w W0 := by rw [← hW0]; exact (Kept.refl _).alloc _
 have b0 : Blk W0 w.heap.size nT pzN := by rw [← hW0]; exact Blk.new _ _ _
 have HW0 := Lib.hid hW0
 have HK0 := Lib.hid k0
 have HB0 := Lib.hid b0
 clear hW0 k0 b0
 go_enter Tryz.func10, Tryz.ntmps10
 go_wp2_with (first | rw [HW0.out] | (go_at_call 9; refine (pnode_c _ _ _ _ _ _).mono ?_; rintro e w1 ⟨rfl, k1⟩; have HK1 := Lib.hid k1; obtain ⟨⟨y0, y1, y2, y3, y4, y5⟩, f0, f1, f2, f3, f4, f5⟩ := nd_six (HB0.out.kept k1); clear k1))
 have h1 := put6n_only
 exact bodyPost_ret (nd_results (x := .mk 14 t ⟨#[]⟩ ⟨#[]⟩ 0 []) (v := .slice none 0 0) (by rfl) _ _ rfl (put6n_blk (HB0.out.kept HK1.out) (.mk 14 t ⟨#[]⟩ ⟨#[]⟩ 0 []) (.slice none 0 0))) rfl ⟨rfl, (HK0.out.trans HK1.out).only (put6n_only w1 w.heap.size (.mk 14 t ⟨#[]⟩ ⟨#[]⟩ 0 []) (.slice none 0 0)) rfl (fun k hk => by omega)⟩
/-- A node's box and a fault's, made and then written. -/
theorem two_boxes (w : World) (x : Nd) (v : Value) (e a : Int) {Z6 Z7 Z8 : World} (h6 : (w.alloc (.cells pzN nT)).alloc (.cells #[.int .i64 0, .int .i64 0] 36) = Z6) (h7 : put6n Z6 w.heap.size x v = Z7) (h8 : (Z7.setCell ⟨w.heap.size + 1, 0, none⟩ (.int .i64 e)).setCell ⟨w.heap.size + 1, 1, none⟩ (.int .i64 a) = Z8) :
  Blk Z6 w.heap.size nT pzN ∧ Blk Z7 (w.heap.size + 1) 36 #[.int .i64 0, .int .i64 0] ∧ Blk Z8 w.heap.size nT (ndA x v) ∧ Blk Z8 (w.heap.size + 1) 36 #[.int .i64 e, .int .i64 a] ∧ Kept w Z8 := by
 have b6 : Blk Z6 w.heap.size nT pzN := by rw [← h6]; exact (Blk.new _ _ _).alloc _
 have c6 : Blk Z6 (w.heap.size + 1) 36 #[.int .i64 0, .int .i64 0] := by rw [← h6]; exact blk_new (by simp)
 have k6 : Kept w Z6 := by rw [← h6]; exact ((Kept.refl _).alloc _).alloc _
 have o7 : Only (· = w.heap.size) Z6 Z7 := by rw [← h7]; exact put6n_only _ _ _ _
 have b7 : Blk Z7 w.heap.size nT (ndA x v) := by rw [← h7]; exact put6n_blk b6 x v
 have c7 := c6.only o7 (by omega)
 have o8 : Only (· = w.heap.size + 1) Z7 Z8 := by rw [← h8]; exact ((Only.refl _ _).put 0 _).put 1 _
 have c8 : Blk Z8 (w.heap.size + 1) 36 #[.int .i64 e, .int .i64 a] := by
  rw [← h8]
  have := (c7.put 0 (.int .i64 e)).put 1 (.int .i64 a)
  simpa using this
 exact ⟨b6, c7, b7.only o8 (by omega), c8, (k6.only o7 rfl (fun k hk => by omega)).only o8 rfl (fun k hk => by omega)⟩
set_option maxHeartbeats 4000000 in
theorem means_c (s : ByteArray) (hs : s.size ≤ 1000000) (x : Nd) (v : Value) (w : World) (hT : PTab w) (hv : Mk w x v) (hp : parseP s.data.toList = .tree x) :
  Calls Tryz.prog 13 #[.string s, ndV x v] w fun e w' => e = .returned (.bool true) ∧ Kept w w' := by
 obtain ⟨W1, hW1⟩ : ∃ W, w.alloc (.cells (ndA x v) nT) = W := ⟨_, rfl⟩
 have k1 : Kept w W1 := by rw [← hW1]; exact (Kept.refl _).alloc _
 have b1 : Blk W1 w.heap.size nT (ndA x v) := by rw [← hW1]; exact Blk.new _ _ _
 have hcv := Lib.run_convert_string_bytes (P := Tryz.prog) W1 9 33 5 s Tryz.underlying9 Tryz.underlying33 Tryz.underlying5
 have hl : s.data.toList.length = s.size := by rw [Array.length_toList]; rfl
 have hsrc := src_of_text s W1 hs
 obtain ⟨W4, hW4⟩ : ∃ W4, Lib.bytesWorld W1 5 s = W4 := ⟨_, rfl⟩
 have k4 : Kept W1 W4 := by rw [← hW4]; exact Kept.of_below (Lib.bytesWorld_below _ _ _)
 rw [hW4] at hcv hsrc
 have hT4 := (hT.kept k1).kept k4
 have HPC := Lib.hid (parse_c (some ⟨W1.heap.size, 0, none⟩) _ s.data.toList W4 hsrc hT4.tb hT4.er hT4.so)
 rw [hl, hp] at HPC
 have HB1 := Lib.hid (b1.kept k4)
 have HV := Lib.hid ((hv.kept k1).kept k4)
 have HW1 := Lib.hid hW1
 have HK4 := Lib.hid (k1.trans k4)
 obtain ⟨av, cv, e, _⟩ := hv.kids
 subst e
 have hq := fun W => eqF 0 0 0 0 W
 clear hsrc hW4 k4 hT hT4 hl hW1 k1 b1 hv hp
 go_enter Tryz.func13, Tryz.ntmps13
 go_wp2_with (rw [HW1.out])
 refine HPC.out.mono ?_
 rintro e w5 (⟨x5, k5s, v5, h1, rfl, hx, hk, hok, hcnt, hce, k5⟩ | ⟨_, _, h1, _⟩)
 rotate_left
 ·cases h1
 injection h1 with h1
 subst h1
 obtain ⟨a5, c5, rfl⟩ := hk.slice
 have hl5 : k5s.length = x.kids.length := by rw [hx, List.length_map]
 have hkk : KidsAt w5 (.slice a5 x.kids.length c5) x.kids := by
  have := hk.kids.at
  rw [← hx, hl5] at this
  exact this
 rw [hl5]
 obtain ⟨Z6, h6⟩ : ∃ Z, (w5.alloc (.cells pzN nT)).alloc (.cells #[.int .i64 0, .int .i64 0] 36) = Z := ⟨_, rfl⟩
 obtain ⟨Z7, h7⟩ : ∃ Z, put6n Z6 w5.heap.size x (.slice a5 x.kids.length c5) = Z := ⟨_, rfl⟩
 obtain ⟨W7, hW7⟩ : ∃ Z, (Z7.setCell ⟨w5.heap.size + 1, 0, none⟩ (.int .i64 0)).setCell ⟨w5.heap.size + 1, 1, none⟩ (.int .i64 0) = Z := ⟨_, rfl⟩
 obtain ⟨t1, t2, b6, b7, k7⟩ := two_boxes w5 x (.slice a5 x.kids.length c5) 0 0 h6 h7 hW7
 have HZ6 := Lib.hid h6
 have HZ7 := Lib.hid (show (((((Z6.setCell ⟨w5.heap.size, 0, none⟩ (.int .i64 x.kind)).setCell ⟨w5.heap.size, 1, none⟩ (.string x.text)).setCell ⟨w5.heap.size, 2, none⟩ (.string x.typ)).setCell ⟨w5.heap.size, 3, none⟩ (.string x.frm)).setCell ⟨w5.heap.size, 4, none⟩ (.int .i64 x.n)).setCell ⟨w5.heap.size, 5, none⟩ (.slice a5 x.kids.length c5) = Z7 from h7)
 obtain ⟨⟨q0, q1, q2, q3, q4, q5⟩, f0, f1, f2, f3, f4, f5⟩ := nd_six t1
 have p0 := t2.cell 0
 have p1 := t2.cell 1
 have r0 := t2.frozen 0
 have r1 := t2.frozen 1
 clear t1 t2 h6 h7
 have b1 := (HB1.out.kept k5).kept k7
 obtain ⟨⟨y0, y1, y2, y3, y4, y5⟩, _⟩ := nd_six b6
 obtain ⟨⟨z0, z1, z2, z3, z4, z5⟩, _⟩ := nd_six b1
 have i0 := b7.cell 0
 have i1 := b7.cell 1
 have HSN := Lib.hid (show Calls Tryz.prog 17 #[ndV x (.slice a5 x.kids.length c5), ndV x (.slice av x.kids.length cv)] W7 (fun e w' => e = .returned (.bool true) ∧ Kept W7 w') from by
  obtain ⟨a', c', e, hk'⟩ := ((HV.out.kept k5).kept k7).kids
  injection e with e1 e2 e3
  subst e1 e3
  exact sameN_c x a5 c5 _ _ W7 (KidsD.kept hkk k7) hk')
 have HK7 := Lib.hid ((HK4.out.trans k5).trans k7)
 have HW7 := Lib.hid hW7
 clear hx hk hok hcnt hce k5 hl5 hkk hW7 k7 b6 b7 b1 hcv HPC
 go_wp2_with (first | rw [HZ6.out] | rw [HZ7.out] | rw [HW7.out])
 refine HSN.out.mono ?_
 rintro e w8 ⟨rfl, k8⟩
 have HK8 := Lib.hid k8
 clear k8
 go_wp2_with fail
 go_ret
 exact ⟨rfl, HK7.out.trans HK8.out⟩
set_option maxHeartbeats 4000000 in
theorem pfails_c (s : ByteArray) (hs : s.size ≤ 1000000) (n : Int) (w : World) (hT : PTab w) (hp : parseP s.data.toList = .fault 5 n) :
  Calls Tryz.prog 15 #[.string s, .int .i64 n] w fun e w' => e = .returned (.bool true) ∧ Kept w w' := by
 have hcv := Lib.run_convert_string_bytes (P := Tryz.prog) w 9 33 5 s Tryz.underlying9 Tryz.underlying33 Tryz.underlying5
 have hl : s.data.toList.length = s.size := by rw [Array.length_toList]; rfl
 have hsrc := src_of_text s w hs
 obtain ⟨W4, hW4⟩ : ∃ W4, Lib.bytesWorld w 5 s = W4 := ⟨_, rfl⟩
 have k4 : Kept w W4 := by rw [← hW4]; exact Kept.of_below (Lib.bytesWorld_below _ _ _)
 rw [hW4] at hcv hsrc
 have hT4 := hT.kept k4
 have HPC := Lib.hid (parse_c (some ⟨w.heap.size, 0, none⟩) _ s.data.toList W4 hsrc hT4.tb hT4.er hT4.so)
 rw [hl, hp] at HPC
 have HK4 := Lib.hid k4
 have hq : ∀ W, (binOp .eql 36 (fagg 5 n) (fagg 5 n)).run Tryz.prog W = .ok (.bool true) W := fun W => by
  have := eqF 5 n 5 n W
  simpa using this
 clear hsrc hW4 k4 hT hT4 hl hp
 go_enter Tryz.func15, Tryz.ntmps15
 go_wp2_with fail
 refine HPC.out.mono ?_
 rintro e w5 (⟨_, _, _, h1, _⟩ | ⟨er, ea, h1, _, rfl, k5⟩)
 ·cases h1
 injection h1 with h1 h2
 subst h1 h2
 obtain ⟨Z6, h6⟩ : ∃ Z, (w5.alloc (.cells pzN nT)).alloc (.cells #[.int .i64 0, .int .i64 0] 36) = Z := ⟨_, rfl⟩
 obtain ⟨Z7, h7⟩ : ∃ Z, put6n Z6 w5.heap.size (Ps.nd 0 Ps.e0 Ps.e0 0 []) (.slice none 0 0) = Z := ⟨_, rfl⟩
 obtain ⟨W7, hW7⟩ : ∃ Z, (Z7.setCell ⟨w5.heap.size + 1, 0, none⟩ (.int .i64 5)).setCell ⟨w5.heap.size + 1, 1, none⟩ (.int .i64 n) = Z := ⟨_, rfl⟩
 obtain ⟨t1, t2, b6, b7, k7⟩ := two_boxes w5 (Ps.nd 0 Ps.e0 Ps.e0 0 []) (.slice none 0 0) 5 n h6 h7 hW7
 have HZ6 := Lib.hid h6
 have HZ7 := Lib.hid (show (((((Z6.setCell ⟨w5.heap.size, 0, none⟩ (.int .i64 0)).setCell ⟨w5.heap.size, 1, none⟩ (.string ⟨#[]⟩)).setCell ⟨w5.heap.size, 2, none⟩ (.string ⟨#[]⟩)).setCell ⟨w5.heap.size, 3, none⟩ (.string ⟨#[]⟩)).setCell ⟨w5.heap.size, 4, none⟩ (.int .i64 0)).setCell ⟨w5.heap.size, 5, none⟩ (.slice none 0 0) = Z7 from h7)
 obtain ⟨⟨q0, q1, q2, q3, q4, q5⟩, f0, f1, f2, f3, f4, f5⟩ := nd_six t1
 have p0 := t2.cell 0
 have p1 := t2.cell 1
 have r0 := t2.frozen 0
 have r1 := t2.frozen 1
 clear t1 t2 h6 h7
 obtain ⟨⟨y0, y1, y2, y3, y4, y5⟩, _⟩ := nd_six (show Blk W7 w5.heap.size nT pzN from b6)
 have i0 := b7.cell 0
 have i1 := b7.cell 1
 have HSN := Lib.hid (show Calls Tryz.prog 17 #[.agg #[.int .i64 0, .string ⟨#[]⟩, .string ⟨#[]⟩, .string ⟨#[]⟩, .int .i64 0, .slice none 0 0], .agg #[.int .i64 0, .string ⟨#[]⟩, .string ⟨#[]⟩, .string ⟨#[]⟩, .int .i64 0, .slice none 0 0]] W7 (fun e w' => e = .returned (.bool true) ∧ Kept W7 w') from sameN_c (Ps.nd 0 Ps.e0 Ps.e0 0 []) none 0 none 0 W7 Row.nil Row.nil)
 have HK7 := Lib.hid ((HK4.out.trans k5).trans k7)
 have HW7 := Lib.hid hW7
 clear k5 hW7 k7 b6 b7 hcv HPC
 go_wp2_with (first | rw [HZ6.out] | rw [HZ7.out] | rw [HW7.out])
 refine HSN.out.mono ?_
 rintro e w8 ⟨rfl, k8⟩
 have HK8 := Lib.hid k8
 clear k8
 go_wp2_with fail
 go_ret
 exact ⟨rfl, HK7.out.trans HK8.out⟩
/-- A program of these expressions. -/
def progL (l : List Nd) : Nd := Ps.nd 1 Ps.e0 Ps.e0 0 [Ps.nd 6 Ps.e0 Ps.e0 0 l]
set_option maxHeartbeats 4000000 in
theorem does_c (s : ByteArray) (hs : s.size ≤ 1000000) (l : List Nd) (v : Value) (w : World) (hT : PTab w) (hv : Ks w v l) (hp : parseP s.data.toList = .tree (progL l)) :
  Calls Tryz.prog 8 #[.string s, v] w fun e w' => e = .returned (.bool true) ∧ Kept w w' := by
 obtain ⟨a, c, rfl, hk⟩ := hv
 have HT := Lib.hid hT
 have HP := Lib.hid hp
 have HV := Lib.hid (show Ks w (.slice a l.length c) l from ⟨a, c, rfl, hk⟩)
 clear hT hp hk
 go_enter Tryz.func8, Tryz.ntmps8
 go_wp2_with fail
 refine (pnode_c _ _ _ _ _ _).mono ?_
 rintro e w1 ⟨rfl, k1⟩
 obtain ⟨W2, hW2⟩ : ∃ W, w1.alloc (.cells (ndA (Ps.nd 6 Ps.e0 Ps.e0 0 l) (.slice a l.length c)) nT) = W := ⟨_, rfl⟩
 have k2 : Kept w1 W2 := by rw [← hW2]; exact (Kept.refl _).alloc _
 have HL2 := Lib.hid (show Ks W2 (.slice (some ⟨w1.heap.size, 0, none⟩) 1 1) [Ps.nd 6 Ps.e0 Ps.e0 0 l] by
  rw [← hW2]
  exact lit_kids [(Ps.nd 6 Ps.e0 Ps.e0 0 l, .slice a l.length c)] rfl rfl rfl (by simp) (fun q hq => by
   rw [List.mem_singleton] at hq; subst hq
   exact ⟨nd_ok1 _ _ _ _ _ (by decide) e0_size e0_size (by decide), HV.out.kept k1⟩))
 have HK2 := Lib.hid (k1.trans k2)
 have HW2 := Lib.hid (show w1.alloc (.cells #[.int .i64 6, .string ⟨#[]⟩, .string ⟨#[]⟩, .string ⟨#[]⟩, .int .i64 0, .slice a l.length c] nT) = W2 from hW2)
 clear k1 k2 hW2
 go_wp2_with (rw [HW2.out])
 refine (pnode_c _ _ _ _ _ _).mono ?_
 rintro e w3 ⟨rfl, k3⟩
 have HK3 := Lib.hid (HK2.out.trans k3)
 have HM := Lib.hid (show Mk w3 (progL l) (.slice (some ⟨w1.heap.size, 0, none⟩) 1 1) from ⟨nd_ok1 _ _ _ _ _ (by decide) e0_size e0_size (by decide), HL2.out.kept k3⟩)
 clear k3
 go_wp2_with fail
 refine (means_c s hs (progL l) _ w3 (HT.out.kept HK3.out) HM.out HP.out).mono ?_
 rintro e w4 ⟨rfl, k4⟩
 have HK4 := Lib.hid (HK3.out.trans k4)
 clear k4
 go_wp2_with fail
 go_ret
 exact ⟨rfl, HK4.out⟩
end Go.Proofs.YtfkmnpgpfmkjaaaGreatDoor
namespace Go.Proofs.YtfkmnpgpfmkjaaaGreatDoor
open Go.ChangeShapes Go.WideShapes Go.ChangeAt Go.RowKit Go.Shelf
attribute [local go_sem] Oper.semAt_some
set_option maxHeartbeats 16000000 in
theorem pawake_c (w : World) (hT : PTab w) : Calls Tryz.prog 14 #[] w fun e w' => e = .returned (.bool true) ∧ Kept w w' := by
 have HTB := Lib.hid hT
 have HKK := Lib.hid (Kept.refl w)
 clear hT
 go_enter Tryz.func14, Tryz.ntmps14
 go_wp2_with fail
 refine (does_c ⟨#[109, 97, 105, 110, 123, 125]⟩ (by decide) [] _ _ HTB.out (Ks.nil _) (show parseP (⟨#[109, 97, 105, 110, 123, 125]⟩ : ByteArray).data.toList = .tree (progL []) from px1)).mono ?_
 rintro e w1 ⟨rfl, k1⟩
 replace HTB := Lib.hid (HTB.out.kept k1)
 replace HKK := Lib.hid (HKK.out.trans k1)
 clear k1
 go_wp2_with fail
 refine (pnumber_c _ _).mono ?_
 rintro e w2 ⟨rfl, k2⟩
 replace HTB := Lib.hid (HTB.out.kept k2)
 replace HKK := Lib.hid (HKK.out.trans k2)
 have Hn1 := Lib.hid (show Mk w2 (Ps.nd 7 ⟨#[]⟩ ⟨#[]⟩ 1 []) (.slice none 0 0) from ⟨nd_ok1 _ _ _ _ _ (by decide) (by decide) (by decide) (by decide), Ks.nil _⟩)
 clear k2
 go_wp2_with fail
 refine (pnumber_c _ _).mono ?_
 rintro e w3 ⟨rfl, k3⟩
 replace HTB := Lib.hid (HTB.out.kept k3)
 replace Hn1 := Lib.hid (Hn1.out.kept k3)
 replace HKK := Lib.hid (HKK.out.trans k3)
 have Hn2 := Lib.hid (show Mk w3 (Ps.nd 7 ⟨#[]⟩ ⟨#[]⟩ 2 []) (.slice none 0 0) from ⟨nd_ok1 _ _ _ _ _ (by decide) (by decide) (by decide) (by decide), Ks.nil _⟩)
 clear k3
 go_wp2_with fail
 refine (pnumber_c _ _).mono ?_
 rintro e w4 ⟨rfl, k4⟩
 replace HTB := Lib.hid (HTB.out.kept k4)
 replace Hn1 := Lib.hid (Hn1.out.kept k4)
 replace Hn2 := Lib.hid (Hn2.out.kept k4)
 replace HKK := Lib.hid (HKK.out.trans k4)
 have Hn3 := Lib.hid (show Mk w4 (Ps.nd 7 ⟨#[]⟩ ⟨#[]⟩ 3 []) (.slice none 0 0) from ⟨nd_ok1 _ _ _ _ _ (by decide) (by decide) (by decide) (by decide), Ks.nil _⟩)
 clear k4
 go_wp2_with fail
 obtain ⟨w5, hw5⟩ : ∃ V, w4.alloc (.cells #[.int .i64 7, .string ⟨#[]⟩, .string ⟨#[]⟩, .string ⟨#[]⟩, .int .i64 2, .slice none 0 0, .int .i64 7, .string ⟨#[]⟩, .string ⟨#[]⟩, .string ⟨#[]⟩, .int .i64 3, .slice none 0 0] nT) = V := ⟨_, rfl⟩
 have k5 : Kept w4 w5 := by rw [← hw5]; exact (Kept.refl _).alloc _
 have Hl1 := Lib.hid (show Ks w5 (.slice (some ⟨w4.heap.size, 0, none⟩) 2 2) [(Ps.nd 7 ⟨#[]⟩ ⟨#[]⟩ 2 []), (Ps.nd 7 ⟨#[]⟩ ⟨#[]⟩ 3 [])] by
  rw [← hw5]
  exact lit_kids [((Ps.nd 7 ⟨#[]⟩ ⟨#[]⟩ 2 []), (.slice none 0 0)), ((Ps.nd 7 ⟨#[]⟩ ⟨#[]⟩ 3 []), (.slice none 0 0))] rfl rfl rfl (by simp) (fun q hq => by
   simp only [List.mem_cons, List.not_mem_nil, or_false] at hq
   rcases hq with rfl | rfl
   ·exact Hn2.out
   ·exact Hn3.out))
 replace HTB := Lib.hid (HTB.out.kept k5)
 replace Hn1 := Lib.hid (Hn1.out.kept k5)
 replace Hn2 := Lib.hid (Hn2.out.kept k5)
 replace Hn3 := Lib.hid (Hn3.out.kept k5)
 replace HKK := Lib.hid (HKK.out.trans k5)
 have HWw5 := Lib.hid hw5
 clear hw5 k5
 go_wp2_with (rw [HWw5.out])
 refine (pnode_c _ _ _ _ _ _).mono ?_
 rintro e w6 ⟨rfl, k6⟩
 replace HTB := Lib.hid (HTB.out.kept k6)
 replace Hn1 := Lib.hid (Hn1.out.kept k6)
 replace Hn2 := Lib.hid (Hn2.out.kept k6)
 replace Hn3 := Lib.hid (Hn3.out.kept k6)
 replace Hl1 := Lib.hid (Hl1.out.kept k6)
 replace HKK := Lib.hid (HKK.out.trans k6)
 have Hm1 := Lib.hid (show Mk w6 (Ps.nd 25 ⟨#[42]⟩ ⟨#[]⟩ 0 [(Ps.nd 7 ⟨#[]⟩ ⟨#[]⟩ 2 []), (Ps.nd 7 ⟨#[]⟩ ⟨#[]⟩ 3 [])]) (.slice (some ⟨w4.heap.size, 0, none⟩) 2 2) from ⟨nd_ok1 _ _ _ _ _ (by decide) (by decide) (by decide) (by decide), Hl1.out⟩)
 clear k6
 go_wp2_with fail
 obtain ⟨w7, hw7⟩ : ∃ V, w6.alloc (.cells #[.int .i64 7, .string ⟨#[]⟩, .string ⟨#[]⟩, .string ⟨#[]⟩, .int .i64 1, .slice none 0 0, .int .i64 25, .string ⟨#[42]⟩, .string ⟨#[]⟩, .string ⟨#[]⟩, .int .i64 0, .slice (some ⟨w4.heap.size, 0, none⟩) 2 2] nT) = V := ⟨_, rfl⟩
 have k7 : Kept w6 w7 := by rw [← hw7]; exact (Kept.refl _).alloc _
 have Hl2 := Lib.hid (show Ks w7 (.slice (some ⟨w6.heap.size, 0, none⟩) 2 2) [(Ps.nd 7 ⟨#[]⟩ ⟨#[]⟩ 1 []), (Ps.nd 25 ⟨#[42]⟩ ⟨#[]⟩ 0 [(Ps.nd 7 ⟨#[]⟩ ⟨#[]⟩ 2 []), (Ps.nd 7 ⟨#[]⟩ ⟨#[]⟩ 3 [])])] by
  rw [← hw7]
  exact lit_kids [((Ps.nd 7 ⟨#[]⟩ ⟨#[]⟩ 1 []), (.slice none 0 0)), ((Ps.nd 25 ⟨#[42]⟩ ⟨#[]⟩ 0 [(Ps.nd 7 ⟨#[]⟩ ⟨#[]⟩ 2 []), (Ps.nd 7 ⟨#[]⟩ ⟨#[]⟩ 3 [])]), (.slice (some ⟨w4.heap.size, 0, none⟩) 2 2))] rfl rfl rfl (by simp) (fun q hq => by
   simp only [List.mem_cons, List.not_mem_nil, or_false] at hq
   rcases hq with rfl | rfl
   ·exact Hn1.out
   ·exact Hm1.out))
 replace HTB := Lib.hid (HTB.out.kept k7)
 replace Hn1 := Lib.hid (Hn1.out.kept k7)
 replace Hn2 := Lib.hid (Hn2.out.kept k7)
 replace Hn3 := Lib.hid (Hn3.out.kept k7)
 replace Hl1 := Lib.hid (Hl1.out.kept k7)
 replace Hm1 := Lib.hid (Hm1.out.kept k7)
 replace HKK := Lib.hid (HKK.out.trans k7)
 have HWw7 := Lib.hid hw7
 clear hw7 k7
 go_wp2_with (rw [HWw7.out])
 refine (pnode_c _ _ _ _ _ _).mono ?_
 rintro e w8 ⟨rfl, k8⟩
 replace HTB := Lib.hid (HTB.out.kept k8)
 replace Hn1 := Lib.hid (Hn1.out.kept k8)
 replace Hn2 := Lib.hid (Hn2.out.kept k8)
 replace Hn3 := Lib.hid (Hn3.out.kept k8)
 replace Hl1 := Lib.hid (Hl1.out.kept k8)
 replace Hm1 := Lib.hid (Hm1.out.kept k8)
 replace Hl2 := Lib.hid (Hl2.out.kept k8)
 replace HKK := Lib.hid (HKK.out.trans k8)
 have Hm2 := Lib.hid (show Mk w8 (Ps.nd 25 ⟨#[43]⟩ ⟨#[]⟩ 0 [(Ps.nd 7 ⟨#[]⟩ ⟨#[]⟩ 1 []), (Ps.nd 25 ⟨#[42]⟩ ⟨#[]⟩ 0 [(Ps.nd 7 ⟨#[]⟩ ⟨#[]⟩ 2 []), (Ps.nd 7 ⟨#[]⟩ ⟨#[]⟩ 3 [])])]) (.slice (some ⟨w6.heap.size, 0, none⟩) 2 2) from ⟨nd_ok1 _ _ _ _ _ (by decide) (by decide) (by decide) (by decide), Hl2.out⟩)
 clear k8
 go_wp2_with fail
 obtain ⟨w9, hw9⟩ : ∃ V, w8.alloc (.cells #[.int .i64 25, .string ⟨#[43]⟩, .string ⟨#[]⟩, .string ⟨#[]⟩, .int .i64 0, .slice (some ⟨w6.heap.size, 0, none⟩) 2 2] nT) = V := ⟨_, rfl⟩
 have k9 : Kept w8 w9 := by rw [← hw9]; exact (Kept.refl _).alloc _
 have Hl3 := Lib.hid (show Ks w9 (.slice (some ⟨w8.heap.size, 0, none⟩) 1 1) [(Ps.nd 25 ⟨#[43]⟩ ⟨#[]⟩ 0 [(Ps.nd 7 ⟨#[]⟩ ⟨#[]⟩ 1 []), (Ps.nd 25 ⟨#[42]⟩ ⟨#[]⟩ 0 [(Ps.nd 7 ⟨#[]⟩ ⟨#[]⟩ 2 []), (Ps.nd 7 ⟨#[]⟩ ⟨#[]⟩ 3 [])])])] by
  rw [← hw9]
  exact lit_kids [((Ps.nd 25 ⟨#[43]⟩ ⟨#[]⟩ 0 [(Ps.nd 7 ⟨#[]⟩ ⟨#[]⟩ 1 []), (Ps.nd 25 ⟨#[42]⟩ ⟨#[]⟩ 0 [(Ps.nd 7 ⟨#[]⟩ ⟨#[]⟩ 2 []), (Ps.nd 7 ⟨#[]⟩ ⟨#[]⟩ 3 [])])]), (.slice (some ⟨w6.heap.size, 0, none⟩) 2 2))] rfl rfl rfl (by simp) (fun q hq => by
   simp only [List.mem_cons, List.not_mem_nil, or_false] at hq
   subst hq; exact Hm2.out))
 replace HTB := Lib.hid (HTB.out.kept k9)
 replace Hn1 := Lib.hid (Hn1.out.kept k9)
 replace Hn2 := Lib.hid (Hn2.out.kept k9)
 replace Hn3 := Lib.hid (Hn3.out.kept k9)
 replace Hl1 := Lib.hid (Hl1.out.kept k9)
 replace Hm1 := Lib.hid (Hm1.out.kept k9)
 replace Hl2 := Lib.hid (Hl2.out.kept k9)
 replace Hm2 := Lib.hid (Hm2.out.kept k9)
 replace HKK := Lib.hid (HKK.out.trans k9)
 have HWw9 := Lib.hid hw9
 clear hw9 k9
 go_wp2_with (rw [HWw9.out])
 refine (does_c ⟨#[109, 97, 105, 110, 123, 49, 43, 50, 42, 51, 59, 125]⟩ (by decide) [(Ps.nd 25 ⟨#[43]⟩ ⟨#[]⟩ 0 [(Ps.nd 7 ⟨#[]⟩ ⟨#[]⟩ 1 []), (Ps.nd 25 ⟨#[42]⟩ ⟨#[]⟩ 0 [(Ps.nd 7 ⟨#[]⟩ ⟨#[]⟩ 2 []), (Ps.nd 7 ⟨#[]⟩ ⟨#[]⟩ 3 [])])])] _ _ HTB.out Hl3.out (show parseP (⟨#[109, 97, 105, 110, 123, 49, 43, 50, 42, 51, 59, 125]⟩ : ByteArray).data.toList = .tree (progL [(Ps.nd 25 ⟨#[43]⟩ ⟨#[]⟩ 0 [(Ps.nd 7 ⟨#[]⟩ ⟨#[]⟩ 1 []), (Ps.nd 25 ⟨#[42]⟩ ⟨#[]⟩ 0 [(Ps.nd 7 ⟨#[]⟩ ⟨#[]⟩ 2 []), (Ps.nd 7 ⟨#[]⟩ ⟨#[]⟩ 3 [])])])]) from px2)).mono ?_
 rintro e w10 ⟨rfl, k10⟩
 replace HTB := Lib.hid (HTB.out.kept k10)
 replace Hn1 := Lib.hid (Hn1.out.kept k10)
 replace Hn2 := Lib.hid (Hn2.out.kept k10)
 replace Hn3 := Lib.hid (Hn3.out.kept k10)
 replace Hl1 := Lib.hid (Hl1.out.kept k10)
 replace Hm1 := Lib.hid (Hm1.out.kept k10)
 replace Hl2 := Lib.hid (Hl2.out.kept k10)
 replace Hm2 := Lib.hid (Hm2.out.kept k10)
 replace Hl3 := Lib.hid (Hl3.out.kept k10)
 replace HKK := Lib.hid (HKK.out.trans k10)
 clear k10
 go_wp2_with fail
 refine (pfails_c ⟨#[109, 97, 105, 110, 123, 49, 61, 50, 125]⟩ (by decide) 6 _ HTB.out (show parseP (⟨#[109, 97, 105, 110, 123, 49, 61, 50, 125]⟩ : ByteArray).data.toList = .fault 5 6 from px3)).mono ?_
 rintro e w11 ⟨rfl, k11⟩
 replace HTB := Lib.hid (HTB.out.kept k11)
 replace Hn1 := Lib.hid (Hn1.out.kept k11)
 replace Hn2 := Lib.hid (Hn2.out.kept k11)
 replace Hn3 := Lib.hid (Hn3.out.kept k11)
 replace Hl1 := Lib.hid (Hl1.out.kept k11)
 replace Hm1 := Lib.hid (Hm1.out.kept k11)
 replace Hl2 := Lib.hid (Hl2.out.kept k11)
 replace Hm2 := Lib.hid (Hm2.out.kept k11)
 replace Hl3 := Lib.hid (Hl3.out.kept k11)
 replace HKK := Lib.hid (HKK.out.trans k11)
 clear k11
 go_wp2_with fail
 go_ret
 exact ⟨rfl, HKK.out⟩
set_option maxHeartbeats 16000000 in
theorem pknown_c (w : World) (hT : PTab w) : Calls Tryz.prog 3 #[] w fun e w' => e = .returned (.bool true) ∧ Kept w w' := by
 have HTB := Lib.hid hT
 have HKK := Lib.hid (Kept.refl w)
 clear hT
 go_enter Tryz.func3, Tryz.ntmps3
 go_wp2_with fail
 refine (pnamed_c _ _).mono ?_
 rintro e w1 ⟨rfl, k1⟩
 replace HTB := Lib.hid (HTB.out.kept k1)
 replace HKK := Lib.hid (HKK.out.trans k1)
 have Ha1 := Lib.hid (show Mk w1 (Ps.nd 14 ⟨#[121]⟩ ⟨#[]⟩ 0 []) (.slice none 0 0) from ⟨nd_ok1 _ _ _ _ _ (by decide) (by decide) (by decide) (by decide), Ks.nil _⟩)
 clear k1
 go_wp2_with fail
 refine (pnumber_c _ _).mono ?_
 rintro e w2 ⟨rfl, k2⟩
 replace HTB := Lib.hid (HTB.out.kept k2)
 replace Ha1 := Lib.hid (Ha1.out.kept k2)
 replace HKK := Lib.hid (HKK.out.trans k2)
 have Ha2 := Lib.hid (show Mk w2 (Ps.nd 7 ⟨#[]⟩ ⟨#[]⟩ 1 []) (.slice none 0 0) from ⟨nd_ok1 _ _ _ _ _ (by decide) (by decide) (by decide) (by decide), Ks.nil _⟩)
 clear k2
 go_wp2_with fail
 obtain ⟨w3, hw3⟩ : ∃ V, w2.alloc (.cells #[.int .i64 14, .string ⟨#[121]⟩, .string ⟨#[]⟩, .string ⟨#[]⟩, .int .i64 0, .slice none 0 0, .int .i64 7, .string ⟨#[]⟩, .string ⟨#[]⟩, .string ⟨#[]⟩, .int .i64 1, .slice none 0 0] nT) = V := ⟨_, rfl⟩
 have k3 : Kept w2 w3 := by rw [← hw3]; exact (Kept.refl _).alloc _
 have Hb1 := Lib.hid (show Ks w3 (.slice (some ⟨w2.heap.size, 0, none⟩) 2 2) [(Ps.nd 14 ⟨#[121]⟩ ⟨#[]⟩ 0 []), (Ps.nd 7 ⟨#[]⟩ ⟨#[]⟩ 1 [])] by
  rw [← hw3]
  exact lit_kids [((Ps.nd 14 ⟨#[121]⟩ ⟨#[]⟩ 0 []), (.slice none 0 0)), ((Ps.nd 7 ⟨#[]⟩ ⟨#[]⟩ 1 []), (.slice none 0 0))] rfl rfl rfl (by simp) (fun q hq => by
   simp only [List.mem_cons, List.not_mem_nil, or_false] at hq
   rcases hq with rfl | rfl
   ·exact Ha1.out
   ·exact Ha2.out))
 replace HTB := Lib.hid (HTB.out.kept k3)
 replace Ha1 := Lib.hid (Ha1.out.kept k3)
 replace Ha2 := Lib.hid (Ha2.out.kept k3)
 replace HKK := Lib.hid (HKK.out.trans k3)
 have HWw3 := Lib.hid hw3
 clear hw3 k3
 go_wp2_with (rw [HWw3.out])
 refine (pnode_c _ _ _ _ _ _).mono ?_
 rintro e w4 ⟨rfl, k4⟩
 replace HTB := Lib.hid (HTB.out.kept k4)
 replace Ha1 := Lib.hid (Ha1.out.kept k4)
 replace Ha2 := Lib.hid (Ha2.out.kept k4)
 replace Hb1 := Lib.hid (Hb1.out.kept k4)
 replace HKK := Lib.hid (HKK.out.trans k4)
 have Ha3 := Lib.hid (show Mk w4 (Ps.nd 19 ⟨#[102]⟩ ⟨#[]⟩ 0 [(Ps.nd 14 ⟨#[121]⟩ ⟨#[]⟩ 0 []), (Ps.nd 7 ⟨#[]⟩ ⟨#[]⟩ 1 [])]) (.slice (some ⟨w2.heap.size, 0, none⟩) 2 2) from ⟨nd_ok1 _ _ _ _ _ (by decide) (by decide) (by decide) (by decide), Hb1.out⟩)
 clear k4
 go_wp2_with fail
 obtain ⟨w5, hw5⟩ : ∃ V, w4.alloc (.cells #[.int .i64 19, .string ⟨#[102]⟩, .string ⟨#[]⟩, .string ⟨#[]⟩, .int .i64 0, .slice (some ⟨w2.heap.size, 0, none⟩) 2 2] nT) = V := ⟨_, rfl⟩
 have k5 : Kept w4 w5 := by rw [← hw5]; exact (Kept.refl _).alloc _
 have Hb2 := Lib.hid (show Ks w5 (.slice (some ⟨w4.heap.size, 0, none⟩) 1 1) [(Ps.nd 19 ⟨#[102]⟩ ⟨#[]⟩ 0 [(Ps.nd 14 ⟨#[121]⟩ ⟨#[]⟩ 0 []), (Ps.nd 7 ⟨#[]⟩ ⟨#[]⟩ 1 [])])] by
  rw [← hw5]
  exact lit_kids [((Ps.nd 19 ⟨#[102]⟩ ⟨#[]⟩ 0 [(Ps.nd 14 ⟨#[121]⟩ ⟨#[]⟩ 0 []), (Ps.nd 7 ⟨#[]⟩ ⟨#[]⟩ 1 [])]), (.slice (some ⟨w2.heap.size, 0, none⟩) 2 2))] rfl rfl rfl (by simp) (fun q hq => by
   simp only [List.mem_cons, List.not_mem_nil, or_false] at hq
   subst hq; exact Ha3.out))
 replace HTB := Lib.hid (HTB.out.kept k5)
 replace Ha1 := Lib.hid (Ha1.out.kept k5)
 replace Ha2 := Lib.hid (Ha2.out.kept k5)
 replace Hb1 := Lib.hid (Hb1.out.kept k5)
 replace Ha3 := Lib.hid (Ha3.out.kept k5)
 replace HKK := Lib.hid (HKK.out.trans k5)
 have HWw5 := Lib.hid hw5
 clear hw5 k5
 go_wp2_with (rw [HWw5.out])
 refine (pnode_c _ _ _ _ _ _).mono ?_
 rintro e w6 ⟨rfl, k6⟩
 replace HTB := Lib.hid (HTB.out.kept k6)
 replace Ha1 := Lib.hid (Ha1.out.kept k6)
 replace Ha2 := Lib.hid (Ha2.out.kept k6)
 replace Hb1 := Lib.hid (Hb1.out.kept k6)
 replace Ha3 := Lib.hid (Ha3.out.kept k6)
 replace Hb2 := Lib.hid (Hb2.out.kept k6)
 replace HKK := Lib.hid (HKK.out.trans k6)
 have Ha4 := Lib.hid (show Mk w6 (Ps.nd 17 ⟨#[103]⟩ ⟨#[]⟩ 0 [(Ps.nd 19 ⟨#[102]⟩ ⟨#[]⟩ 0 [(Ps.nd 14 ⟨#[121]⟩ ⟨#[]⟩ 0 []), (Ps.nd 7 ⟨#[]⟩ ⟨#[]⟩ 1 [])])]) (.slice (some ⟨w4.heap.size, 0, none⟩) 1 1) from ⟨nd_ok1 _ _ _ _ _ (by decide) (by decide) (by decide) (by decide), Hb2.out⟩)
 clear k6
 go_wp2_with fail
 obtain ⟨w7, hw7⟩ : ∃ V, w6.alloc (.cells #[.int .i64 17, .string ⟨#[103]⟩, .string ⟨#[]⟩, .string ⟨#[]⟩, .int .i64 0, .slice (some ⟨w4.heap.size, 0, none⟩) 1 1] nT) = V := ⟨_, rfl⟩
 have k7 : Kept w6 w7 := by rw [← hw7]; exact (Kept.refl _).alloc _
 have Hb3 := Lib.hid (show Ks w7 (.slice (some ⟨w6.heap.size, 0, none⟩) 1 1) [(Ps.nd 17 ⟨#[103]⟩ ⟨#[]⟩ 0 [(Ps.nd 19 ⟨#[102]⟩ ⟨#[]⟩ 0 [(Ps.nd 14 ⟨#[121]⟩ ⟨#[]⟩ 0 []), (Ps.nd 7 ⟨#[]⟩ ⟨#[]⟩ 1 [])])])] by
  rw [← hw7]
  exact lit_kids [((Ps.nd 17 ⟨#[103]⟩ ⟨#[]⟩ 0 [(Ps.nd 19 ⟨#[102]⟩ ⟨#[]⟩ 0 [(Ps.nd 14 ⟨#[121]⟩ ⟨#[]⟩ 0 []), (Ps.nd 7 ⟨#[]⟩ ⟨#[]⟩ 1 [])])]), (.slice (some ⟨w4.heap.size, 0, none⟩) 1 1))] rfl rfl rfl (by simp) (fun q hq => by
   simp only [List.mem_cons, List.not_mem_nil, or_false] at hq
   subst hq; exact Ha4.out))
 replace HTB := Lib.hid (HTB.out.kept k7)
 replace Ha1 := Lib.hid (Ha1.out.kept k7)
 replace Ha2 := Lib.hid (Ha2.out.kept k7)
 replace Hb1 := Lib.hid (Hb1.out.kept k7)
 replace Ha3 := Lib.hid (Ha3.out.kept k7)
 replace Hb2 := Lib.hid (Hb2.out.kept k7)
 replace Ha4 := Lib.hid (Ha4.out.kept k7)
 replace HKK := Lib.hid (HKK.out.trans k7)
 have HWw7 := Lib.hid hw7
 clear hw7 k7
 go_wp2_with (rw [HWw7.out])
 refine (pnode_c _ _ _ _ _ _).mono ?_
 rintro e w8 ⟨rfl, k8⟩
 replace HTB := Lib.hid (HTB.out.kept k8)
 replace Ha1 := Lib.hid (Ha1.out.kept k8)
 replace Ha2 := Lib.hid (Ha2.out.kept k8)
 replace Hb1 := Lib.hid (Hb1.out.kept k8)
 replace Ha3 := Lib.hid (Ha3.out.kept k8)
 replace Hb2 := Lib.hid (Hb2.out.kept k8)
 replace Ha4 := Lib.hid (Ha4.out.kept k8)
 replace Hb3 := Lib.hid (Hb3.out.kept k8)
 replace HKK := Lib.hid (HKK.out.trans k8)
 have Ha5 := Lib.hid (show Mk w8 (Ps.nd 16 ⟨#[120]⟩ ⟨#[]⟩ 0 [(Ps.nd 17 ⟨#[103]⟩ ⟨#[]⟩ 0 [(Ps.nd 19 ⟨#[102]⟩ ⟨#[]⟩ 0 [(Ps.nd 14 ⟨#[121]⟩ ⟨#[]⟩ 0 []), (Ps.nd 7 ⟨#[]⟩ ⟨#[]⟩ 1 [])])])]) (.slice (some ⟨w6.heap.size, 0, none⟩) 1 1) from ⟨nd_ok1 _ _ _ _ _ (by decide) (by decide) (by decide) (by decide), Hb3.out⟩)
 clear k8
 go_wp2_with fail
 obtain ⟨w9, hw9⟩ : ∃ V, w8.alloc (.cells #[.int .i64 16, .string ⟨#[120]⟩, .string ⟨#[]⟩, .string ⟨#[]⟩, .int .i64 0, .slice (some ⟨w6.heap.size, 0, none⟩) 1 1] nT) = V := ⟨_, rfl⟩
 have k9 : Kept w8 w9 := by rw [← hw9]; exact (Kept.refl _).alloc _
 have Hb4 := Lib.hid (show Ks w9 (.slice (some ⟨w8.heap.size, 0, none⟩) 1 1) [(Ps.nd 16 ⟨#[120]⟩ ⟨#[]⟩ 0 [(Ps.nd 17 ⟨#[103]⟩ ⟨#[]⟩ 0 [(Ps.nd 19 ⟨#[102]⟩ ⟨#[]⟩ 0 [(Ps.nd 14 ⟨#[121]⟩ ⟨#[]⟩ 0 []), (Ps.nd 7 ⟨#[]⟩ ⟨#[]⟩ 1 [])])])])] by
  rw [← hw9]
  exact lit_kids [((Ps.nd 16 ⟨#[120]⟩ ⟨#[]⟩ 0 [(Ps.nd 17 ⟨#[103]⟩ ⟨#[]⟩ 0 [(Ps.nd 19 ⟨#[102]⟩ ⟨#[]⟩ 0 [(Ps.nd 14 ⟨#[121]⟩ ⟨#[]⟩ 0 []), (Ps.nd 7 ⟨#[]⟩ ⟨#[]⟩ 1 [])])])]), (.slice (some ⟨w6.heap.size, 0, none⟩) 1 1))] rfl rfl rfl (by simp) (fun q hq => by
   simp only [List.mem_cons, List.not_mem_nil, or_false] at hq
   subst hq; exact Ha5.out))
 replace HTB := Lib.hid (HTB.out.kept k9)
 replace Ha1 := Lib.hid (Ha1.out.kept k9)
 replace Ha2 := Lib.hid (Ha2.out.kept k9)
 replace Hb1 := Lib.hid (Hb1.out.kept k9)
 replace Ha3 := Lib.hid (Ha3.out.kept k9)
 replace Hb2 := Lib.hid (Hb2.out.kept k9)
 replace Ha4 := Lib.hid (Ha4.out.kept k9)
 replace Hb3 := Lib.hid (Hb3.out.kept k9)
 replace Ha5 := Lib.hid (Ha5.out.kept k9)
 replace HKK := Lib.hid (HKK.out.trans k9)
 have HWw9 := Lib.hid hw9
 clear hw9 k9
 go_wp2_with (rw [HWw9.out])
 refine (does_c ⟨#[109, 97, 105, 110, 123, 120, 61, 121, 46, 102, 40, 49, 41, 46, 103, 125]⟩ (by decide) [(Ps.nd 16 ⟨#[120]⟩ ⟨#[]⟩ 0 [(Ps.nd 17 ⟨#[103]⟩ ⟨#[]⟩ 0 [(Ps.nd 19 ⟨#[102]⟩ ⟨#[]⟩ 0 [(Ps.nd 14 ⟨#[121]⟩ ⟨#[]⟩ 0 []), (Ps.nd 7 ⟨#[]⟩ ⟨#[]⟩ 1 [])])])])] _ _ HTB.out Hb4.out (show parseP (⟨#[109, 97, 105, 110, 123, 120, 61, 121, 46, 102, 40, 49, 41, 46, 103, 125]⟩ : ByteArray).data.toList = .tree (progL [(Ps.nd 16 ⟨#[120]⟩ ⟨#[]⟩ 0 [(Ps.nd 17 ⟨#[103]⟩ ⟨#[]⟩ 0 [(Ps.nd 19 ⟨#[102]⟩ ⟨#[]⟩ 0 [(Ps.nd 14 ⟨#[121]⟩ ⟨#[]⟩ 0 []), (Ps.nd 7 ⟨#[]⟩ ⟨#[]⟩ 1 [])])])])]) from px4)).mono ?_
 rintro e w10 ⟨rfl, k10⟩
 replace HTB := Lib.hid (HTB.out.kept k10)
 replace Ha1 := Lib.hid (Ha1.out.kept k10)
 replace Ha2 := Lib.hid (Ha2.out.kept k10)
 replace Hb1 := Lib.hid (Hb1.out.kept k10)
 replace Ha3 := Lib.hid (Ha3.out.kept k10)
 replace Hb2 := Lib.hid (Hb2.out.kept k10)
 replace Ha4 := Lib.hid (Ha4.out.kept k10)
 replace Hb3 := Lib.hid (Hb3.out.kept k10)
 replace Ha5 := Lib.hid (Ha5.out.kept k10)
 replace Hb4 := Lib.hid (Hb4.out.kept k10)
 replace HKK := Lib.hid (HKK.out.trans k10)
 clear k10
 go_wp2_with fail
 refine (pnamed_c _ _).mono ?_
 rintro e w11 ⟨rfl, k11⟩
 replace HTB := Lib.hid (HTB.out.kept k11)
 replace HKK := Lib.hid (HKK.out.trans k11)
 have Hc1 := Lib.hid (show Mk w11 (Ps.nd 14 ⟨#[97]⟩ ⟨#[]⟩ 0 []) (.slice none 0 0) from ⟨nd_ok1 _ _ _ _ _ (by decide) (by decide) (by decide) (by decide), Ks.nil _⟩)
 clear k11
 go_wp2_with fail
 refine (pnamed_c _ _).mono ?_
 rintro e w12 ⟨rfl, k12⟩
 replace HTB := Lib.hid (HTB.out.kept k12)
 replace Hc1 := Lib.hid (Hc1.out.kept k12)
 replace HKK := Lib.hid (HKK.out.trans k12)
 have Hc2 := Lib.hid (show Mk w12 (Ps.nd 14 ⟨#[99]⟩ ⟨#[]⟩ 0 []) (.slice none 0 0) from ⟨nd_ok1 _ _ _ _ _ (by decide) (by decide) (by decide) (by decide), Ks.nil _⟩)
 clear k12
 go_wp2_with fail
 obtain ⟨w13, hw13⟩ : ∃ V, w12.alloc (.cells #[.int .i64 14, .string ⟨#[99]⟩, .string ⟨#[]⟩, .string ⟨#[]⟩, .int .i64 0, .slice none 0 0] nT) = V := ⟨_, rfl⟩
 have k13 : Kept w12 w13 := by rw [← hw13]; exact (Kept.refl _).alloc _
 have Hd1 := Lib.hid (show Ks w13 (.slice (some ⟨w12.heap.size, 0, none⟩) 1 1) [(Ps.nd 14 ⟨#[99]⟩ ⟨#[]⟩ 0 [])] by
  rw [← hw13]
  exact lit_kids [((Ps.nd 14 ⟨#[99]⟩ ⟨#[]⟩ 0 []), (.slice none 0 0))] rfl rfl rfl (by simp) (fun q hq => by
   simp only [List.mem_cons, List.not_mem_nil, or_false] at hq
   subst hq; exact Hc2.out))
 replace HTB := Lib.hid (HTB.out.kept k13)
 replace Hc1 := Lib.hid (Hc1.out.kept k13)
 replace Hc2 := Lib.hid (Hc2.out.kept k13)
 replace HKK := Lib.hid (HKK.out.trans k13)
 have HWw13 := Lib.hid hw13
 clear hw13 k13
 go_wp2_with (rw [HWw13.out])
 refine (ptyped_c _ _ _ _ _ _ _).mono ?_
 rintro e w14 ⟨rfl, k14⟩
 replace HTB := Lib.hid (HTB.out.kept k14)
 replace Hc1 := Lib.hid (Hc1.out.kept k14)
 replace Hc2 := Lib.hid (Hc2.out.kept k14)
 replace Hd1 := Lib.hid (Hd1.out.kept k14)
 replace HKK := Lib.hid (HKK.out.trans k14)
 have Hc3 := Lib.hid (show Mk w14 (Ps.nd 28 ⟨#[]⟩ ⟨#[63]⟩ 0 [(Ps.nd 14 ⟨#[99]⟩ ⟨#[]⟩ 0 [])]) (.slice (some ⟨w12.heap.size, 0, none⟩) 1 1) from ⟨nd_ok1 _ _ _ _ _ (by decide) (by decide) (by decide) (by decide), Hd1.out⟩)
 clear k14
 go_wp2_with fail
 obtain ⟨w15, hw15⟩ : ∃ V, w14.alloc (.cells #[.int .i64 14, .string ⟨#[97]⟩, .string ⟨#[]⟩, .string ⟨#[]⟩, .int .i64 0, .slice none 0 0, .int .i64 28, .string ⟨#[]⟩, .string ⟨#[63]⟩, .string ⟨#[]⟩, .int .i64 0, .slice (some ⟨w12.heap.size, 0, none⟩) 1 1] nT) = V := ⟨_, rfl⟩
 have k15 : Kept w14 w15 := by rw [← hw15]; exact (Kept.refl _).alloc _
 have Hd2 := Lib.hid (show Ks w15 (.slice (some ⟨w14.heap.size, 0, none⟩) 2 2) [(Ps.nd 14 ⟨#[97]⟩ ⟨#[]⟩ 0 []), (Ps.nd 28 ⟨#[]⟩ ⟨#[63]⟩ 0 [(Ps.nd 14 ⟨#[99]⟩ ⟨#[]⟩ 0 [])])] by
  rw [← hw15]
  exact lit_kids [((Ps.nd 14 ⟨#[97]⟩ ⟨#[]⟩ 0 []), (.slice none 0 0)), ((Ps.nd 28 ⟨#[]⟩ ⟨#[63]⟩ 0 [(Ps.nd 14 ⟨#[99]⟩ ⟨#[]⟩ 0 [])]), (.slice (some ⟨w12.heap.size, 0, none⟩) 1 1))] rfl rfl rfl (by simp) (fun q hq => by
   simp only [List.mem_cons, List.not_mem_nil, or_false] at hq
   rcases hq with rfl | rfl
   ·exact Hc1.out
   ·exact Hc3.out))
 replace HTB := Lib.hid (HTB.out.kept k15)
 replace Hc1 := Lib.hid (Hc1.out.kept k15)
 replace Hc2 := Lib.hid (Hc2.out.kept k15)
 replace Hd1 := Lib.hid (Hd1.out.kept k15)
 replace Hc3 := Lib.hid (Hc3.out.kept k15)
 replace HKK := Lib.hid (HKK.out.trans k15)
 have HWw15 := Lib.hid hw15
 clear hw15 k15
 go_wp2_with (rw [HWw15.out])
 refine (pnode_c _ _ _ _ _ _).mono ?_
 rintro e w16 ⟨rfl, k16⟩
 replace HTB := Lib.hid (HTB.out.kept k16)
 replace Hc1 := Lib.hid (Hc1.out.kept k16)
 replace Hc2 := Lib.hid (Hc2.out.kept k16)
 replace Hd1 := Lib.hid (Hd1.out.kept k16)
 replace Hc3 := Lib.hid (Hc3.out.kept k16)
 replace Hd2 := Lib.hid (Hd2.out.kept k16)
 replace HKK := Lib.hid (HKK.out.trans k16)
 have Hc4 := Lib.hid (show Mk w16 (Ps.nd 18 ⟨#[98]⟩ ⟨#[]⟩ 0 [(Ps.nd 14 ⟨#[97]⟩ ⟨#[]⟩ 0 []), (Ps.nd 28 ⟨#[]⟩ ⟨#[63]⟩ 0 [(Ps.nd 14 ⟨#[99]⟩ ⟨#[]⟩ 0 [])])]) (.slice (some ⟨w14.heap.size, 0, none⟩) 2 2) from ⟨nd_ok1 _ _ _ _ _ (by decide) (by decide) (by decide) (by decide), Hd2.out⟩)
 clear k16
 go_wp2_with fail
 obtain ⟨w17, hw17⟩ : ∃ V, w16.alloc (.cells #[.int .i64 18, .string ⟨#[98]⟩, .string ⟨#[]⟩, .string ⟨#[]⟩, .int .i64 0, .slice (some ⟨w14.heap.size, 0, none⟩) 2 2] nT) = V := ⟨_, rfl⟩
 have k17 : Kept w16 w17 := by rw [← hw17]; exact (Kept.refl _).alloc _
 have Hd3 := Lib.hid (show Ks w17 (.slice (some ⟨w16.heap.size, 0, none⟩) 1 1) [(Ps.nd 18 ⟨#[98]⟩ ⟨#[]⟩ 0 [(Ps.nd 14 ⟨#[97]⟩ ⟨#[]⟩ 0 []), (Ps.nd 28 ⟨#[]⟩ ⟨#[63]⟩ 0 [(Ps.nd 14 ⟨#[99]⟩ ⟨#[]⟩ 0 [])])])] by
  rw [← hw17]
  exact lit_kids [((Ps.nd 18 ⟨#[98]⟩ ⟨#[]⟩ 0 [(Ps.nd 14 ⟨#[97]⟩ ⟨#[]⟩ 0 []), (Ps.nd 28 ⟨#[]⟩ ⟨#[63]⟩ 0 [(Ps.nd 14 ⟨#[99]⟩ ⟨#[]⟩ 0 [])])]), (.slice (some ⟨w14.heap.size, 0, none⟩) 2 2))] rfl rfl rfl (by simp) (fun q hq => by
   simp only [List.mem_cons, List.not_mem_nil, or_false] at hq
   subst hq; exact Hc4.out))
 replace HTB := Lib.hid (HTB.out.kept k17)
 replace Hc1 := Lib.hid (Hc1.out.kept k17)
 replace Hc2 := Lib.hid (Hc2.out.kept k17)
 replace Hd1 := Lib.hid (Hd1.out.kept k17)
 replace Hc3 := Lib.hid (Hc3.out.kept k17)
 replace Hd2 := Lib.hid (Hd2.out.kept k17)
 replace Hc4 := Lib.hid (Hc4.out.kept k17)
 replace HKK := Lib.hid (HKK.out.trans k17)
 have HWw17 := Lib.hid hw17
 clear hw17 k17
 go_wp2_with (rw [HWw17.out])
 refine (does_c ⟨#[109, 97, 105, 110, 123, 97, 46, 98, 61, 40, 99, 58, 63, 41, 125]⟩ (by decide) [(Ps.nd 18 ⟨#[98]⟩ ⟨#[]⟩ 0 [(Ps.nd 14 ⟨#[97]⟩ ⟨#[]⟩ 0 []), (Ps.nd 28 ⟨#[]⟩ ⟨#[63]⟩ 0 [(Ps.nd 14 ⟨#[99]⟩ ⟨#[]⟩ 0 [])])])] _ _ HTB.out Hd3.out (show parseP (⟨#[109, 97, 105, 110, 123, 97, 46, 98, 61, 40, 99, 58, 63, 41, 125]⟩ : ByteArray).data.toList = .tree (progL [(Ps.nd 18 ⟨#[98]⟩ ⟨#[]⟩ 0 [(Ps.nd 14 ⟨#[97]⟩ ⟨#[]⟩ 0 []), (Ps.nd 28 ⟨#[]⟩ ⟨#[63]⟩ 0 [(Ps.nd 14 ⟨#[99]⟩ ⟨#[]⟩ 0 [])])])]) from px5)).mono ?_
 rintro e w18 ⟨rfl, k18⟩
 replace HTB := Lib.hid (HTB.out.kept k18)
 replace Hc1 := Lib.hid (Hc1.out.kept k18)
 replace Hc2 := Lib.hid (Hc2.out.kept k18)
 replace Hd1 := Lib.hid (Hd1.out.kept k18)
 replace Hc3 := Lib.hid (Hc3.out.kept k18)
 replace Hd2 := Lib.hid (Hd2.out.kept k18)
 replace Hc4 := Lib.hid (Hc4.out.kept k18)
 replace Hd3 := Lib.hid (Hd3.out.kept k18)
 replace HKK := Lib.hid (HKK.out.trans k18)
 clear k18
 go_wp2_with fail
 refine (pnumber_c _ _).mono ?_
 rintro e w19 ⟨rfl, k19⟩
 replace HTB := Lib.hid (HTB.out.kept k19)
 replace HKK := Lib.hid (HKK.out.trans k19)
 have He1 := Lib.hid (show Mk w19 (Ps.nd 7 ⟨#[]⟩ ⟨#[]⟩ 1 []) (.slice none 0 0) from ⟨nd_ok1 _ _ _ _ _ (by decide) (by decide) (by decide) (by decide), Ks.nil _⟩)
 clear k19
 go_wp2_with fail
 obtain ⟨w20, hw20⟩ : ∃ V, w19.alloc (.cells #[.int .i64 7, .string ⟨#[]⟩, .string ⟨#[]⟩, .string ⟨#[]⟩, .int .i64 1, .slice none 0 0] nT) = V := ⟨_, rfl⟩
 have k20 : Kept w19 w20 := by rw [← hw20]; exact (Kept.refl _).alloc _
 have Hf1 := Lib.hid (show Ks w20 (.slice (some ⟨w19.heap.size, 0, none⟩) 1 1) [(Ps.nd 7 ⟨#[]⟩ ⟨#[]⟩ 1 [])] by
  rw [← hw20]
  exact lit_kids [((Ps.nd 7 ⟨#[]⟩ ⟨#[]⟩ 1 []), (.slice none 0 0))] rfl rfl rfl (by simp) (fun q hq => by
   simp only [List.mem_cons, List.not_mem_nil, or_false] at hq
   subst hq; exact He1.out))
 replace HTB := Lib.hid (HTB.out.kept k20)
 replace He1 := Lib.hid (He1.out.kept k20)
 replace HKK := Lib.hid (HKK.out.trans k20)
 have HWw20 := Lib.hid hw20
 clear hw20 k20
 go_wp2_with (rw [HWw20.out])
 refine (pnode_c _ _ _ _ _ _).mono ?_
 rintro e w21 ⟨rfl, k21⟩
 replace HTB := Lib.hid (HTB.out.kept k21)
 replace He1 := Lib.hid (He1.out.kept k21)
 replace Hf1 := Lib.hid (Hf1.out.kept k21)
 replace HKK := Lib.hid (HKK.out.trans k21)
 have He2 := Lib.hid (show Mk w21 (Ps.nd 24 ⟨#[45]⟩ ⟨#[]⟩ 0 [(Ps.nd 7 ⟨#[]⟩ ⟨#[]⟩ 1 [])]) (.slice (some ⟨w19.heap.size, 0, none⟩) 1 1) from ⟨nd_ok1 _ _ _ _ _ (by decide) (by decide) (by decide) (by decide), Hf1.out⟩)
 clear k21
 go_wp2_with fail
 refine (pnode_c _ _ _ _ _ _).mono ?_
 rintro e w22 ⟨rfl, k22⟩
 replace HTB := Lib.hid (HTB.out.kept k22)
 replace He1 := Lib.hid (He1.out.kept k22)
 replace Hf1 := Lib.hid (Hf1.out.kept k22)
 replace He2 := Lib.hid (He2.out.kept k22)
 replace HKK := Lib.hid (HKK.out.trans k22)
 have He3 := Lib.hid (show Mk w22 (Ps.nd 11 ⟨#[]⟩ ⟨#[]⟩ 0 []) (.slice none 0 0) from ⟨nd_ok1 _ _ _ _ _ (by decide) (by decide) (by decide) (by decide), Ks.nil _⟩)
 clear k22
 go_wp2_with fail
 obtain ⟨w23, hw23⟩ : ∃ V, w22.alloc (.cells #[.int .i64 24, .string ⟨#[45]⟩, .string ⟨#[]⟩, .string ⟨#[]⟩, .int .i64 0, .slice (some ⟨w19.heap.size, 0, none⟩) 1 1, .int .i64 11, .string ⟨#[]⟩, .string ⟨#[]⟩, .string ⟨#[]⟩, .int .i64 0, .slice none 0 0] nT) = V := ⟨_, rfl⟩
 have k23 : Kept w22 w23 := by rw [← hw23]; exact (Kept.refl _).alloc _
 have Hf2 := Lib.hid (show Ks w23 (.slice (some ⟨w22.heap.size, 0, none⟩) 2 2) [(Ps.nd 24 ⟨#[45]⟩ ⟨#[]⟩ 0 [(Ps.nd 7 ⟨#[]⟩ ⟨#[]⟩ 1 [])]), (Ps.nd 11 ⟨#[]⟩ ⟨#[]⟩ 0 [])] by
  rw [← hw23]
  exact lit_kids [((Ps.nd 24 ⟨#[45]⟩ ⟨#[]⟩ 0 [(Ps.nd 7 ⟨#[]⟩ ⟨#[]⟩ 1 [])]), (.slice (some ⟨w19.heap.size, 0, none⟩) 1 1)), ((Ps.nd 11 ⟨#[]⟩ ⟨#[]⟩ 0 []), (.slice none 0 0))] rfl rfl rfl (by simp) (fun q hq => by
   simp only [List.mem_cons, List.not_mem_nil, or_false] at hq
   rcases hq with rfl | rfl
   ·exact He2.out
   ·exact He3.out))
 replace HTB := Lib.hid (HTB.out.kept k23)
 replace He1 := Lib.hid (He1.out.kept k23)
 replace Hf1 := Lib.hid (Hf1.out.kept k23)
 replace He2 := Lib.hid (He2.out.kept k23)
 replace He3 := Lib.hid (He3.out.kept k23)
 replace HKK := Lib.hid (HKK.out.trans k23)
 have HWw23 := Lib.hid hw23
 clear hw23 k23
 go_wp2_with (rw [HWw23.out])
 refine (pnode_c _ _ _ _ _ _).mono ?_
 rintro e w24 ⟨rfl, k24⟩
 replace HTB := Lib.hid (HTB.out.kept k24)
 replace He1 := Lib.hid (He1.out.kept k24)
 replace Hf1 := Lib.hid (Hf1.out.kept k24)
 replace He2 := Lib.hid (He2.out.kept k24)
 replace He3 := Lib.hid (He3.out.kept k24)
 replace Hf2 := Lib.hid (Hf2.out.kept k24)
 replace HKK := Lib.hid (HKK.out.trans k24)
 have He4 := Lib.hid (show Mk w24 (Ps.nd 25 ⟨#[45]⟩ ⟨#[]⟩ 0 [(Ps.nd 24 ⟨#[45]⟩ ⟨#[]⟩ 0 [(Ps.nd 7 ⟨#[]⟩ ⟨#[]⟩ 1 [])]), (Ps.nd 11 ⟨#[]⟩ ⟨#[]⟩ 0 [])]) (.slice (some ⟨w22.heap.size, 0, none⟩) 2 2) from ⟨nd_ok1 _ _ _ _ _ (by decide) (by decide) (by decide) (by decide), Hf2.out⟩)
 clear k24
 go_wp2_with fail
 obtain ⟨w25, hw25⟩ : ∃ V, w24.alloc (.cells #[.int .i64 25, .string ⟨#[45]⟩, .string ⟨#[]⟩, .string ⟨#[]⟩, .int .i64 0, .slice (some ⟨w22.heap.size, 0, none⟩) 2 2] nT) = V := ⟨_, rfl⟩
 have k25 : Kept w24 w25 := by rw [← hw25]; exact (Kept.refl _).alloc _
 have Hf3 := Lib.hid (show Ks w25 (.slice (some ⟨w24.heap.size, 0, none⟩) 1 1) [(Ps.nd 25 ⟨#[45]⟩ ⟨#[]⟩ 0 [(Ps.nd 24 ⟨#[45]⟩ ⟨#[]⟩ 0 [(Ps.nd 7 ⟨#[]⟩ ⟨#[]⟩ 1 [])]), (Ps.nd 11 ⟨#[]⟩ ⟨#[]⟩ 0 [])])] by
  rw [← hw25]
  exact lit_kids [((Ps.nd 25 ⟨#[45]⟩ ⟨#[]⟩ 0 [(Ps.nd 24 ⟨#[45]⟩ ⟨#[]⟩ 0 [(Ps.nd 7 ⟨#[]⟩ ⟨#[]⟩ 1 [])]), (Ps.nd 11 ⟨#[]⟩ ⟨#[]⟩ 0 [])]), (.slice (some ⟨w22.heap.size, 0, none⟩) 2 2))] rfl rfl rfl (by simp) (fun q hq => by
   simp only [List.mem_cons, List.not_mem_nil, or_false] at hq
   subst hq; exact He4.out))
 replace HTB := Lib.hid (HTB.out.kept k25)
 replace He1 := Lib.hid (He1.out.kept k25)
 replace Hf1 := Lib.hid (Hf1.out.kept k25)
 replace He2 := Lib.hid (He2.out.kept k25)
 replace He3 := Lib.hid (He3.out.kept k25)
 replace Hf2 := Lib.hid (Hf2.out.kept k25)
 replace He4 := Lib.hid (He4.out.kept k25)
 replace HKK := Lib.hid (HKK.out.trans k25)
 have HWw25 := Lib.hid hw25
 clear hw25 k25
 go_wp2_with (rw [HWw25.out])
 refine (does_c ⟨#[109, 97, 105, 110, 123, 45, 49, 45, 40, 41, 125]⟩ (by decide) [(Ps.nd 25 ⟨#[45]⟩ ⟨#[]⟩ 0 [(Ps.nd 24 ⟨#[45]⟩ ⟨#[]⟩ 0 [(Ps.nd 7 ⟨#[]⟩ ⟨#[]⟩ 1 [])]), (Ps.nd 11 ⟨#[]⟩ ⟨#[]⟩ 0 [])])] _ _ HTB.out Hf3.out (show parseP (⟨#[109, 97, 105, 110, 123, 45, 49, 45, 40, 41, 125]⟩ : ByteArray).data.toList = .tree (progL [(Ps.nd 25 ⟨#[45]⟩ ⟨#[]⟩ 0 [(Ps.nd 24 ⟨#[45]⟩ ⟨#[]⟩ 0 [(Ps.nd 7 ⟨#[]⟩ ⟨#[]⟩ 1 [])]), (Ps.nd 11 ⟨#[]⟩ ⟨#[]⟩ 0 [])])]) from px6)).mono ?_
 rintro e w26 ⟨rfl, k26⟩
 replace HTB := Lib.hid (HTB.out.kept k26)
 replace He1 := Lib.hid (He1.out.kept k26)
 replace Hf1 := Lib.hid (Hf1.out.kept k26)
 replace He2 := Lib.hid (He2.out.kept k26)
 replace He3 := Lib.hid (He3.out.kept k26)
 replace Hf2 := Lib.hid (Hf2.out.kept k26)
 replace He4 := Lib.hid (He4.out.kept k26)
 replace Hf3 := Lib.hid (Hf3.out.kept k26)
 replace HKK := Lib.hid (HKK.out.trans k26)
 clear k26
 go_wp2_with fail
 refine (ptyped_c _ _ _ _ _ _ _).mono ?_
 rintro e w27 ⟨rfl, k27⟩
 replace HTB := Lib.hid (HTB.out.kept k27)
 replace HKK := Lib.hid (HKK.out.trans k27)
 have Hp1 := Lib.hid (show Mk w27 (Ps.nd 5 ⟨#[97]⟩ ⟨#[105, 110, 116]⟩ 0 []) (.slice none 0 0) from ⟨nd_ok1 _ _ _ _ _ (by decide) (by decide) (by decide) (by decide), Ks.nil _⟩)
 clear k27
 go_wp2_with fail
 refine (pnode_c _ _ _ _ _ _).mono ?_
 rintro e w28 ⟨rfl, k28⟩
 replace HTB := Lib.hid (HTB.out.kept k28)
 replace Hp1 := Lib.hid (Hp1.out.kept k28)
 replace HKK := Lib.hid (HKK.out.trans k28)
 have Hp2 := Lib.hid (show Mk w28 (Ps.nd 13 ⟨#[]⟩ ⟨#[]⟩ 0 []) (.slice none 0 0) from ⟨nd_ok1 _ _ _ _ _ (by decide) (by decide) (by decide) (by decide), Ks.nil _⟩)
 clear k28
 go_wp2_with fail
 obtain ⟨w29, hw29⟩ : ∃ V, w28.alloc (.cells #[.int .i64 13, .string ⟨#[]⟩, .string ⟨#[]⟩, .string ⟨#[]⟩, .int .i64 0, .slice none 0 0] nT) = V := ⟨_, rfl⟩
 have k29 : Kept w28 w29 := by rw [← hw29]; exact (Kept.refl _).alloc _
 have Hq1 := Lib.hid (show Ks w29 (.slice (some ⟨w28.heap.size, 0, none⟩) 1 1) [(Ps.nd 13 ⟨#[]⟩ ⟨#[]⟩ 0 [])] by
  rw [← hw29]
  exact lit_kids [((Ps.nd 13 ⟨#[]⟩ ⟨#[]⟩ 0 []), (.slice none 0 0))] rfl rfl rfl (by simp) (fun q hq => by
   simp only [List.mem_cons, List.not_mem_nil, or_false] at hq
   subst hq; exact Hp2.out))
 replace HTB := Lib.hid (HTB.out.kept k29)
 replace Hp1 := Lib.hid (Hp1.out.kept k29)
 replace Hp2 := Lib.hid (Hp2.out.kept k29)
 replace HKK := Lib.hid (HKK.out.trans k29)
 have HWw29 := Lib.hid hw29
 clear hw29 k29
 go_wp2_with (rw [HWw29.out])
 refine (pnode_c _ _ _ _ _ _).mono ?_
 rintro e w30 ⟨rfl, k30⟩
 replace HTB := Lib.hid (HTB.out.kept k30)
 replace Hp1 := Lib.hid (Hp1.out.kept k30)
 replace Hp2 := Lib.hid (Hp2.out.kept k30)
 replace Hq1 := Lib.hid (Hq1.out.kept k30)
 replace HKK := Lib.hid (HKK.out.trans k30)
 have Hp3 := Lib.hid (show Mk w30 (Ps.nd 6 ⟨#[]⟩ ⟨#[]⟩ 0 [(Ps.nd 13 ⟨#[]⟩ ⟨#[]⟩ 0 [])]) (.slice (some ⟨w28.heap.size, 0, none⟩) 1 1) from ⟨nd_ok1 _ _ _ _ _ (by decide) (by decide) (by decide) (by decide), Hq1.out⟩)
 clear k30
 go_wp2_with fail
 obtain ⟨w31, hw31⟩ : ∃ V, w30.alloc (.cells #[.int .i64 5, .string ⟨#[97]⟩, .string ⟨#[105, 110, 116]⟩, .string ⟨#[]⟩, .int .i64 0, .slice none 0 0, .int .i64 6, .string ⟨#[]⟩, .string ⟨#[]⟩, .string ⟨#[]⟩, .int .i64 0, .slice (some ⟨w28.heap.size, 0, none⟩) 1 1] nT) = V := ⟨_, rfl⟩
 have k31 : Kept w30 w31 := by rw [← hw31]; exact (Kept.refl _).alloc _
 have Hq2 := Lib.hid (show Ks w31 (.slice (some ⟨w30.heap.size, 0, none⟩) 2 2) [(Ps.nd 5 ⟨#[97]⟩ ⟨#[105, 110, 116]⟩ 0 []), (Ps.nd 6 ⟨#[]⟩ ⟨#[]⟩ 0 [(Ps.nd 13 ⟨#[]⟩ ⟨#[]⟩ 0 [])])] by
  rw [← hw31]
  exact lit_kids [((Ps.nd 5 ⟨#[97]⟩ ⟨#[105, 110, 116]⟩ 0 []), (.slice none 0 0)), ((Ps.nd 6 ⟨#[]⟩ ⟨#[]⟩ 0 [(Ps.nd 13 ⟨#[]⟩ ⟨#[]⟩ 0 [])]), (.slice (some ⟨w28.heap.size, 0, none⟩) 1 1))] rfl rfl rfl (by simp) (fun q hq => by
   simp only [List.mem_cons, List.not_mem_nil, or_false] at hq
   rcases hq with rfl | rfl
   ·exact Hp1.out
   ·exact Hp3.out))
 replace HTB := Lib.hid (HTB.out.kept k31)
 replace Hp1 := Lib.hid (Hp1.out.kept k31)
 replace Hp2 := Lib.hid (Hp2.out.kept k31)
 replace Hq1 := Lib.hid (Hq1.out.kept k31)
 replace Hp3 := Lib.hid (Hp3.out.kept k31)
 replace HKK := Lib.hid (HKK.out.trans k31)
 have HWw31 := Lib.hid hw31
 clear hw31 k31
 go_wp2_with (rw [HWw31.out])
 refine (ptyped_c _ _ _ _ _ _ _).mono ?_
 rintro e w32 ⟨rfl, k32⟩
 replace HTB := Lib.hid (HTB.out.kept k32)
 replace Hp1 := Lib.hid (Hp1.out.kept k32)
 replace Hp2 := Lib.hid (Hp2.out.kept k32)
 replace Hq1 := Lib.hid (Hq1.out.kept k32)
 replace Hp3 := Lib.hid (Hp3.out.kept k32)
 replace Hq2 := Lib.hid (Hq2.out.kept k32)
 replace HKK := Lib.hid (HKK.out.trans k32)
 have Hp4 := Lib.hid (show Mk w32 (Ps.nd 4 ⟨#[102]⟩ ⟨#[65]⟩ 0 [(Ps.nd 5 ⟨#[97]⟩ ⟨#[105, 110, 116]⟩ 0 []), (Ps.nd 6 ⟨#[]⟩ ⟨#[]⟩ 0 [(Ps.nd 13 ⟨#[]⟩ ⟨#[]⟩ 0 [])])]) (.slice (some ⟨w30.heap.size, 0, none⟩) 2 2) from ⟨nd_ok1 _ _ _ _ _ (by decide) (by decide) (by decide) (by decide), Hq2.out⟩)
 clear k32
 obtain ⟨w33, hw33⟩ : ∃ V, w32.alloc (.cells #[.int .i64 4, .string ⟨#[102]⟩, .string ⟨#[65]⟩, .string ⟨#[]⟩, .int .i64 0, .slice (some ⟨w30.heap.size, 0, none⟩) 2 2] nT) = V := ⟨_, rfl⟩
 have k33 : Kept w32 w33 := by rw [← hw33]; exact (Kept.refl _).alloc _
 have HBX := Lib.hid (show Blk w33 w32.heap.size nT #[.int .i64 4, .string ⟨#[102]⟩, .string ⟨#[65]⟩, .string ⟨#[]⟩, .int .i64 0, .slice (some ⟨w30.heap.size, 0, none⟩) 2 2] by rw [← hw33]; exact Blk.new _ _ _)
 replace HTB := Lib.hid (HTB.out.kept k33)
 replace Hp1 := Lib.hid (Hp1.out.kept k33)
 replace Hp2 := Lib.hid (Hp2.out.kept k33)
 replace Hq1 := Lib.hid (Hq1.out.kept k33)
 replace Hp3 := Lib.hid (Hp3.out.kept k33)
 replace Hq2 := Lib.hid (Hq2.out.kept k33)
 replace Hp4 := Lib.hid (Hp4.out.kept k33)
 replace HKK := Lib.hid (HKK.out.trans k33)
 have HWw33 := Lib.hid hw33
 clear hw33 k33
 go_wp2_with (rw [HWw33.out])
 obtain ⟨D0, hD0⟩ : ∃ D, w33.drew = D := ⟨_, rfl⟩
 have kd : Kept w33 D0 := by rw [← hD0]; exact (Kept.refl _).drew
 replace HTB := Lib.hid (HTB.out.kept kd)
 replace Hp1 := Lib.hid (Hp1.out.kept kd)
 replace Hp2 := Lib.hid (Hp2.out.kept kd)
 replace Hq1 := Lib.hid (Hq1.out.kept kd)
 replace Hp3 := Lib.hid (Hp3.out.kept kd)
 replace Hq2 := Lib.hid (Hq2.out.kept kd)
 replace Hp4 := Lib.hid (Hp4.out.kept kd)
 replace HBX := Lib.hid (HBX.out.kept kd)
 replace HKK := Lib.hid (HKK.out.trans kd)
 have HD0 := Lib.hid hD0
 clear kd hD0
 have hs0 := (nd_six HBX.out).1
 rw [← HD0.out] at hs0
 refine wp_region_held_drew (S := (fun W => W.cell? ⟨w32.heap.size, 0, none⟩ = some (.int .i64 4) ∧ W.cell? ⟨w32.heap.size, 1, none⟩ = some (.string ⟨#[102]⟩) ∧ W.cell? ⟨w32.heap.size, 2, none⟩ = some (.string ⟨#[65]⟩) ∧ W.cell? ⟨w32.heap.size, 3, none⟩ = some (.string ⟨#[]⟩) ∧ W.cell? ⟨w32.heap.size, 4, none⟩ = some (.int .i64 0) ∧ W.cell? ⟨w32.heap.size, 5, none⟩ = some (.slice (some ⟨w30.heap.size, 0, none⟩) 2 2))) (by kernel_rfl) hs0 (fun hHeld0 => ?_)
 rw [HD0.out] at hHeld0 ⊢
 clear hs0
 refine wpAnyH_take (i := 1) (v := ?_) rfl (by kernel_rfl) (by kernel_rfl) (by kernel_rfl) (fun _ _ _ h => h) (Or.inl ⟨by kernel_rfl, ?_⟩) (by assumption) ?_
 rotate_left
 ·intro w hSw; (try dsimp only at hSw); go_simp; (try with_reducible rfl)
 (try simp only [Act.put, List.getElem_toArray, List.getElem_cons_zero, List.getElem_cons_succ, List.setIfInBounds_toArray, List.set_cons_zero, List.set_cons_succ])
 refine wpAnyH_ready (rs := [0]) (by kernel_rfl) (by simp) ?_
 refine AllReadyH.cons rfl (fun K hK => ?_) AllReadyH.nil
 go_simp
 refine (ptyped_c _ _ _ _ _ _ _).mono ?_
 rintro e w34 ⟨rfl, k34⟩
 replace HTB := Lib.hid (HTB.out.kept k34)
 replace Hp1 := Lib.hid (Hp1.out.kept k34)
 replace Hp2 := Lib.hid (Hp2.out.kept k34)
 replace Hq1 := Lib.hid (Hq1.out.kept k34)
 replace Hp3 := Lib.hid (Hp3.out.kept k34)
 replace Hq2 := Lib.hid (Hq2.out.kept k34)
 replace Hp4 := Lib.hid (Hp4.out.kept k34)
 replace HBX := Lib.hid (HBX.out.kept k34)
 replace HKK := Lib.hid (HKK.out.trans k34)
 have Hp5 := Lib.hid (show Mk w34 (Ps.nd 3 ⟨#[120]⟩ ⟨#[63]⟩ 0 []) (.slice none 0 0) from ⟨nd_ok1 _ _ _ _ _ (by decide) (by decide) (by decide) (by decide), Ks.nil _⟩)
 refine hK.out _ _ ((nd_six HBX.out).1) (fun hHeld34 => ?_)
 clear hK K
 (try simp only [Act.put, List.getElem_toArray, List.getElem_cons_zero, List.getElem_cons_succ, List.setIfInBounds_toArray, List.set_cons_zero, List.set_cons_succ])
 clear k34 hHeld0
 refine wpAnyH_ready (rs := [2]) (by kernel_rfl) (by simp) ?_
 refine AllReadyH.cons rfl (fun K hK => ?_) AllReadyH.nil
 obtain ⟨w35, hw35⟩ : ∃ V, w34.alloc (.cells #[.int .i64 3, .string ⟨#[120]⟩, .string ⟨#[63]⟩, .string ⟨#[]⟩, .int .i64 0, .slice none 0 0, .int .i64 4, .string ⟨#[102]⟩, .string ⟨#[65]⟩, .string ⟨#[]⟩, .int .i64 0, .slice (some ⟨w30.heap.size, 0, none⟩) 2 2] nT) = V := ⟨_, rfl⟩
 have k35 : Kept w34 w35 := by rw [← hw35]; exact (Kept.refl _).alloc _
 have Hq3 := Lib.hid (show Ks w35 (.slice (some ⟨w34.heap.size, 0, none⟩) 2 2) [(Ps.nd 3 ⟨#[120]⟩ ⟨#[63]⟩ 0 []), (Ps.nd 4 ⟨#[102]⟩ ⟨#[65]⟩ 0 [(Ps.nd 5 ⟨#[97]⟩ ⟨#[105, 110, 116]⟩ 0 []), (Ps.nd 6 ⟨#[]⟩ ⟨#[]⟩ 0 [(Ps.nd 13 ⟨#[]⟩ ⟨#[]⟩ 0 [])])])] by
  rw [← hw35]
  exact lit_kids [((Ps.nd 3 ⟨#[120]⟩ ⟨#[63]⟩ 0 []), (.slice none 0 0)), ((Ps.nd 4 ⟨#[102]⟩ ⟨#[65]⟩ 0 [(Ps.nd 5 ⟨#[97]⟩ ⟨#[105, 110, 116]⟩ 0 []), (Ps.nd 6 ⟨#[]⟩ ⟨#[]⟩ 0 [(Ps.nd 13 ⟨#[]⟩ ⟨#[]⟩ 0 [])])]), (.slice (some ⟨w30.heap.size, 0, none⟩) 2 2))] rfl rfl rfl (by simp) (fun q hq => by
   simp only [List.mem_cons, List.not_mem_nil, or_false] at hq
   rcases hq with rfl | rfl
   ·exact Hp5.out
   ·exact Hp4.out))
 replace HTB := Lib.hid (HTB.out.kept k35)
 replace Hp1 := Lib.hid (Hp1.out.kept k35)
 replace Hp2 := Lib.hid (Hp2.out.kept k35)
 replace Hq1 := Lib.hid (Hq1.out.kept k35)
 replace Hp3 := Lib.hid (Hp3.out.kept k35)
 replace Hq2 := Lib.hid (Hq2.out.kept k35)
 replace Hp4 := Lib.hid (Hp4.out.kept k35)
 replace HBX := Lib.hid (HBX.out.kept k35)
 replace Hp5 := Lib.hid (Hp5.out.kept k35)
 replace HKK := Lib.hid (HKK.out.trans k35)
 have HWw35 := Lib.hid hw35
 clear hw35 k35
 go_simp
 rw [HWw35.out]
 refine hK.out _ _ ((nd_six HBX.out).1) (fun hHeld35 => ?_)
 clear hK K
 (try simp only [Act.put, List.getElem_toArray, List.getElem_cons_zero, List.getElem_cons_succ, List.setIfInBounds_toArray, List.set_cons_zero, List.set_cons_succ])
 clear hHeld34
 refine wpAnyH_ready (rs := [3]) (by kernel_rfl) (by simp) ?_
 refine AllReadyH.cons rfl (fun K hK => ?_) AllReadyH.nil
 go_simp
 refine (ptyped_c _ _ _ _ _ _ _).mono ?_
 rintro e w36 ⟨rfl, k36⟩
 replace HTB := Lib.hid (HTB.out.kept k36)
 replace Hp1 := Lib.hid (Hp1.out.kept k36)
 replace Hp2 := Lib.hid (Hp2.out.kept k36)
 replace Hq1 := Lib.hid (Hq1.out.kept k36)
 replace Hp3 := Lib.hid (Hp3.out.kept k36)
 replace Hq2 := Lib.hid (Hq2.out.kept k36)
 replace Hp4 := Lib.hid (Hp4.out.kept k36)
 replace HBX := Lib.hid (HBX.out.kept k36)
 replace Hp5 := Lib.hid (Hp5.out.kept k36)
 replace Hq3 := Lib.hid (Hq3.out.kept k36)
 replace HKK := Lib.hid (HKK.out.trans k36)
 have Hp6 := Lib.hid (show Mk w36 (Ps.nd 2 ⟨#[65]⟩ ⟨#[66]⟩ 0 [(Ps.nd 3 ⟨#[120]⟩ ⟨#[63]⟩ 0 []), (Ps.nd 4 ⟨#[102]⟩ ⟨#[65]⟩ 0 [(Ps.nd 5 ⟨#[97]⟩ ⟨#[105, 110, 116]⟩ 0 []), (Ps.nd 6 ⟨#[]⟩ ⟨#[]⟩ 0 [(Ps.nd 13 ⟨#[]⟩ ⟨#[]⟩ 0 [])])])]) (.slice (some ⟨w34.heap.size, 0, none⟩) 2 2) from ⟨nd_ok1 _ _ _ _ _ (by decide) (by decide) (by decide) (by decide), Hq3.out⟩)
 refine hK.out _ _ ((nd_six HBX.out).1) (fun hHeld36 => ?_)
 clear hK K
 (try simp only [Act.put, List.getElem_toArray, List.getElem_cons_zero, List.getElem_cons_succ, List.setIfInBounds_toArray, List.set_cons_zero, List.set_cons_succ])
 clear k36 hHeld35
 refine wpAnyH_ready (rs := [4]) (by kernel_rfl) (by simp) ?_
 refine AllReadyH.cons rfl (fun K hK => ?_) AllReadyH.nil
 go_simp
 refine (pnode_c _ _ _ _ _ _).mono ?_
 rintro e w37 ⟨rfl, k37⟩
 replace HTB := Lib.hid (HTB.out.kept k37)
 replace Hp1 := Lib.hid (Hp1.out.kept k37)
 replace Hp2 := Lib.hid (Hp2.out.kept k37)
 replace Hq1 := Lib.hid (Hq1.out.kept k37)
 replace Hp3 := Lib.hid (Hp3.out.kept k37)
 replace Hq2 := Lib.hid (Hq2.out.kept k37)
 replace Hp4 := Lib.hid (Hp4.out.kept k37)
 replace HBX := Lib.hid (HBX.out.kept k37)
 replace Hp5 := Lib.hid (Hp5.out.kept k37)
 replace Hq3 := Lib.hid (Hq3.out.kept k37)
 replace Hp6 := Lib.hid (Hp6.out.kept k37)
 replace HKK := Lib.hid (HKK.out.trans k37)
 have Hp7 := Lib.hid (show Mk w37 (Ps.nd 6 ⟨#[]⟩ ⟨#[]⟩ 0 []) (.slice none 0 0) from ⟨nd_ok1 _ _ _ _ _ (by decide) (by decide) (by decide) (by decide), Ks.nil _⟩)
 refine hK.out _ _ ((nd_six HBX.out).1) (fun hHeld37 => ?_)
 clear hK K
 (try simp only [Act.put, List.getElem_toArray, List.getElem_cons_zero, List.getElem_cons_succ, List.setIfInBounds_toArray, List.set_cons_zero, List.set_cons_succ])
 clear k37 hHeld36
 refine wpAnyH_ready (rs := [5]) (by kernel_rfl) (by simp) ?_
 refine AllReadyH.cons rfl (fun K hK => ?_) AllReadyH.nil
 obtain ⟨w38, hw38⟩ : ∃ V, w37.alloc (.cells #[.int .i64 2, .string ⟨#[65]⟩, .string ⟨#[66]⟩, .string ⟨#[]⟩, .int .i64 0, .slice (some ⟨w34.heap.size, 0, none⟩) 2 2, .int .i64 6, .string ⟨#[]⟩, .string ⟨#[]⟩, .string ⟨#[]⟩, .int .i64 0, .slice none 0 0] nT) = V := ⟨_, rfl⟩
 have k38 : Kept w37 w38 := by rw [← hw38]; exact (Kept.refl _).alloc _
 have Hq4 := Lib.hid (show Ks w38 (.slice (some ⟨w37.heap.size, 0, none⟩) 2 2) [(Ps.nd 2 ⟨#[65]⟩ ⟨#[66]⟩ 0 [(Ps.nd 3 ⟨#[120]⟩ ⟨#[63]⟩ 0 []), (Ps.nd 4 ⟨#[102]⟩ ⟨#[65]⟩ 0 [(Ps.nd 5 ⟨#[97]⟩ ⟨#[105, 110, 116]⟩ 0 []), (Ps.nd 6 ⟨#[]⟩ ⟨#[]⟩ 0 [(Ps.nd 13 ⟨#[]⟩ ⟨#[]⟩ 0 [])])])]), (Ps.nd 6 ⟨#[]⟩ ⟨#[]⟩ 0 [])] by
  rw [← hw38]
  exact lit_kids [((Ps.nd 2 ⟨#[65]⟩ ⟨#[66]⟩ 0 [(Ps.nd 3 ⟨#[120]⟩ ⟨#[63]⟩ 0 []), (Ps.nd 4 ⟨#[102]⟩ ⟨#[65]⟩ 0 [(Ps.nd 5 ⟨#[97]⟩ ⟨#[105, 110, 116]⟩ 0 []), (Ps.nd 6 ⟨#[]⟩ ⟨#[]⟩ 0 [(Ps.nd 13 ⟨#[]⟩ ⟨#[]⟩ 0 [])])])]), (.slice (some ⟨w34.heap.size, 0, none⟩) 2 2)), ((Ps.nd 6 ⟨#[]⟩ ⟨#[]⟩ 0 []), (.slice none 0 0))] rfl rfl rfl (by simp) (fun q hq => by
   simp only [List.mem_cons, List.not_mem_nil, or_false] at hq
   rcases hq with rfl | rfl
   ·exact Hp6.out
   ·exact Hp7.out))
 replace HTB := Lib.hid (HTB.out.kept k38)
 replace Hp1 := Lib.hid (Hp1.out.kept k38)
 replace Hp2 := Lib.hid (Hp2.out.kept k38)
 replace Hq1 := Lib.hid (Hq1.out.kept k38)
 replace Hp3 := Lib.hid (Hp3.out.kept k38)
 replace Hq2 := Lib.hid (Hq2.out.kept k38)
 replace Hp4 := Lib.hid (Hp4.out.kept k38)
 replace HBX := Lib.hid (HBX.out.kept k38)
 replace Hp5 := Lib.hid (Hp5.out.kept k38)
 replace Hq3 := Lib.hid (Hq3.out.kept k38)
 replace Hp6 := Lib.hid (Hp6.out.kept k38)
 replace Hp7 := Lib.hid (Hp7.out.kept k38)
 replace HKK := Lib.hid (HKK.out.trans k38)
 have HWw38 := Lib.hid hw38
 clear hw38 k38
 go_simp
 rw [HWw38.out]
 refine hK.out _ _ ((nd_six HBX.out).1) (fun hHeld38 => ?_)
 clear hK K
 (try simp only [Act.put, List.getElem_toArray, List.getElem_cons_zero, List.getElem_cons_succ, List.setIfInBounds_toArray, List.set_cons_zero, List.set_cons_succ])
 clear hHeld37
 refine wpAnyH_ready (rs := [6]) (by kernel_rfl) (by simp) ?_
 refine AllReadyH.cons rfl (fun K hK => ?_) AllReadyH.nil
 go_simp
 refine (pnode_c _ _ _ _ _ _).mono ?_
 rintro e w39 ⟨rfl, k39⟩
 replace HTB := Lib.hid (HTB.out.kept k39)
 replace Hp1 := Lib.hid (Hp1.out.kept k39)
 replace Hp2 := Lib.hid (Hp2.out.kept k39)
 replace Hq1 := Lib.hid (Hq1.out.kept k39)
 replace Hp3 := Lib.hid (Hp3.out.kept k39)
 replace Hq2 := Lib.hid (Hq2.out.kept k39)
 replace Hp4 := Lib.hid (Hp4.out.kept k39)
 replace HBX := Lib.hid (HBX.out.kept k39)
 replace Hp5 := Lib.hid (Hp5.out.kept k39)
 replace Hq3 := Lib.hid (Hq3.out.kept k39)
 replace Hp6 := Lib.hid (Hp6.out.kept k39)
 replace Hp7 := Lib.hid (Hp7.out.kept k39)
 replace Hq4 := Lib.hid (Hq4.out.kept k39)
 replace HKK := Lib.hid (HKK.out.trans k39)
 have Hp8 := Lib.hid (show Mk w39 (Ps.nd 1 ⟨#[]⟩ ⟨#[]⟩ 0 [(Ps.nd 2 ⟨#[65]⟩ ⟨#[66]⟩ 0 [(Ps.nd 3 ⟨#[120]⟩ ⟨#[63]⟩ 0 []), (Ps.nd 4 ⟨#[102]⟩ ⟨#[65]⟩ 0 [(Ps.nd 5 ⟨#[97]⟩ ⟨#[105, 110, 116]⟩ 0 []), (Ps.nd 6 ⟨#[]⟩ ⟨#[]⟩ 0 [(Ps.nd 13 ⟨#[]⟩ ⟨#[]⟩ 0 [])])])]), (Ps.nd 6 ⟨#[]⟩ ⟨#[]⟩ 0 [])]) (.slice (some ⟨w37.heap.size, 0, none⟩) 2 2) from ⟨nd_ok1 _ _ _ _ _ (by decide) (by decide) (by decide) (by decide), Hq4.out⟩)
 refine hK.out _ _ ((nd_six HBX.out).1) (fun hHeld39 => ?_)
 clear hK K
 (try simp only [Act.put, List.getElem_toArray, List.getElem_cons_zero, List.getElem_cons_succ, List.setIfInBounds_toArray, List.set_cons_zero, List.set_cons_succ])
 clear k39 hHeld38
 refine wpAnyH_ready (rs := [7]) (by kernel_rfl) (by simp) ?_
 refine AllReadyH.cons rfl (fun K hK => ?_) AllReadyH.nil
 go_simp
 refine (means_c ⟨#[99, 108, 97, 115, 115, 32, 65, 58, 66, 123, 118, 97, 114, 32, 120, 59, 100, 101, 102, 32, 102, 40, 97, 58, 105, 110, 116, 41, 58, 65, 123, 116, 104, 105, 115, 125, 125, 109, 97, 105, 110, 123, 125]⟩ (by decide) (Ps.nd 1 ⟨#[]⟩ ⟨#[]⟩ 0 [(Ps.nd 2 ⟨#[65]⟩ ⟨#[66]⟩ 0 [(Ps.nd 3 ⟨#[120]⟩ ⟨#[63]⟩ 0 []), (Ps.nd 4 ⟨#[102]⟩ ⟨#[65]⟩ 0 [(Ps.nd 5 ⟨#[97]⟩ ⟨#[105, 110, 116]⟩ 0 []), (Ps.nd 6 ⟨#[]⟩ ⟨#[]⟩ 0 [(Ps.nd 13 ⟨#[]⟩ ⟨#[]⟩ 0 [])])])]), (Ps.nd 6 ⟨#[]⟩ ⟨#[]⟩ 0 [])]) _ _ HTB.out Hp8.out (show parseP (⟨#[99, 108, 97, 115, 115, 32, 65, 58, 66, 123, 118, 97, 114, 32, 120, 59, 100, 101, 102, 32, 102, 40, 97, 58, 105, 110, 116, 41, 58, 65, 123, 116, 104, 105, 115, 125, 125, 109, 97, 105, 110, 123, 125]⟩ : ByteArray).data.toList = .tree (Ps.nd 1 ⟨#[]⟩ ⟨#[]⟩ 0 [(Ps.nd 2 ⟨#[65]⟩ ⟨#[66]⟩ 0 [(Ps.nd 3 ⟨#[120]⟩ ⟨#[63]⟩ 0 []), (Ps.nd 4 ⟨#[102]⟩ ⟨#[65]⟩ 0 [(Ps.nd 5 ⟨#[97]⟩ ⟨#[105, 110, 116]⟩ 0 []), (Ps.nd 6 ⟨#[]⟩ ⟨#[]⟩ 0 [(Ps.nd 13 ⟨#[]⟩ ⟨#[]⟩ 0 [])])])]), (Ps.nd 6 ⟨#[]⟩ ⟨#[]⟩ 0 [])]) from px7)).mono ?_
 rintro e w40 ⟨rfl, k40⟩
 replace HTB := Lib.hid (HTB.out.kept k40)
 replace Hp1 := Lib.hid (Hp1.out.kept k40)
 replace Hp2 := Lib.hid (Hp2.out.kept k40)
 replace Hq1 := Lib.hid (Hq1.out.kept k40)
 replace Hp3 := Lib.hid (Hp3.out.kept k40)
 replace Hq2 := Lib.hid (Hq2.out.kept k40)
 replace Hp4 := Lib.hid (Hp4.out.kept k40)
 replace HBX := Lib.hid (HBX.out.kept k40)
 replace Hp5 := Lib.hid (Hp5.out.kept k40)
 replace Hq3 := Lib.hid (Hq3.out.kept k40)
 replace Hp6 := Lib.hid (Hp6.out.kept k40)
 replace Hp7 := Lib.hid (Hp7.out.kept k40)
 replace Hq4 := Lib.hid (Hq4.out.kept k40)
 replace Hp8 := Lib.hid (Hp8.out.kept k40)
 replace HKK := Lib.hid (HKK.out.trans k40)
 refine hK.out _ _ ((nd_six HBX.out).1) (fun hHeld40 => ?_)
 clear hK K
 (try simp only [Act.put, List.getElem_toArray, List.getElem_cons_zero, List.getElem_cons_succ, List.setIfInBounds_toArray, List.set_cons_zero, List.set_cons_succ])
 clear k40 hHeld39
 refine wpAnyH_take (i := 8) (v := ?_) rfl (by kernel_rfl) (by kernel_rfl) (by kernel_rfl) (fun _ _ _ h => h) (Or.inl ⟨by kernel_rfl, ?_⟩) (by assumption) ?_
 rotate_left
 ·intro w hSw; (try dsimp only at hSw); go_simp; (try with_reducible rfl)
 (try simp only [Act.put, List.getElem_toArray, List.getElem_cons_zero, List.getElem_cons_succ, List.setIfInBounds_toArray, List.set_cons_zero, List.set_cons_succ])
 refine wpAnyH_done (by kernel_rfl) ?_ _
 go_wp2_with fail
 refine (pawake_c _ HTB.out).mono ?_
 rintro e w41 ⟨rfl, k41⟩
 replace HTB := Lib.hid (HTB.out.kept k41)
 replace HKK := Lib.hid (HKK.out.trans k41)
 clear k41
 go_wp2_with fail
 refine (pfails_c ⟨#[]⟩ (by decide) 0 _ HTB.out (show parseP (⟨#[]⟩ : ByteArray).data.toList = .fault 5 0 from px8)).mono ?_
 rintro e w42 ⟨rfl, k42⟩
 replace HTB := Lib.hid (HTB.out.kept k42)
 replace HKK := Lib.hid (HKK.out.trans k42)
 clear k42
 go_wp2_with fail
 refine (pfails_c ⟨#[109, 97, 105, 110, 123, 108, 101, 116, 32, 120, 125]⟩ (by decide) 10 _ HTB.out (show parseP (⟨#[109, 97, 105, 110, 123, 108, 101, 116, 32, 120, 125]⟩ : ByteArray).data.toList = .fault 5 10 from px9)).mono ?_
 rintro e w43 ⟨rfl, k43⟩
 replace HTB := Lib.hid (HTB.out.kept k43)
 replace HKK := Lib.hid (HKK.out.trans k43)
 clear k43
 go_wp2_with fail
 refine (pfails_c ⟨#[109, 97, 105, 110, 123, 125, 32, 49]⟩ (by decide) 7 _ HTB.out (show parseP (⟨#[109, 97, 105, 110, 123, 125, 32, 49]⟩ : ByteArray).data.toList = .fault 5 7 from px10)).mono ?_
 rintro e w44 ⟨rfl, k44⟩
 replace HTB := Lib.hid (HTB.out.kept k44)
 replace HKK := Lib.hid (HKK.out.trans k44)
 clear k44
 go_wp2_with fail
 refine (pfails_c ⟨#[109, 97, 105, 110, 123, 34]⟩ (by decide) 5 _ HTB.out (show parseP (⟨#[109, 97, 105, 110, 123, 34]⟩ : ByteArray).data.toList = .fault 5 5 from px11)).mono ?_
 rintro e w45 ⟨rfl, k45⟩
 replace HTB := Lib.hid (HTB.out.kept k45)
 replace HKK := Lib.hid (HKK.out.trans k45)
 clear k45
 go_wp2_with fail
 refine (pfails_c ⟨#[109, 97, 105, 110, 123, 49]⟩ (by decide) 6 _ HTB.out (show parseP (⟨#[109, 97, 105, 110, 123, 49]⟩ : ByteArray).data.toList = .fault 5 6 from px12)).mono ?_
 rintro e w46 ⟨rfl, k46⟩
 replace HTB := Lib.hid (HTB.out.kept k46)
 replace HKK := Lib.hid (HKK.out.trans k46)
 clear k46
 go_wp2_with fail
 go_ret
 exact ⟨rfl, HKK.out⟩
end Go.Proofs.YtfkmnpgpfmkjaaaGreatDoor
namespace Go.Proofs.YtfkmnpgpfmkjaaaGreatDoor
open Ps (O En AlN Al1 is mem)
theorem chkF_zero : ∀ (l : List (Nat × Nd)) (k : Nat), (chkF k l).1 = 0 → chkF k l = (0, 0)
 | [], k, _ => rfl
 | p :: r, k, h => by
  rw [chkF] at h ⊢
  split at h
  ·cases h
  ·rename_i h1
   rw [if_neg h1]
   split at h
   ·rename_i h2; exact absurd h h2
   ·rename_i h2
    rw [if_neg h2]
    exact chkF_zero r _ h
theorem check_zero {x : Nd} (h : (checkE x).1 = 0) : checkE x = (0, 0) := by
 unfold checkE at h ⊢
 split at h
 ·rename_i h1; exact absurd h h1
 ·rename_i h1
  rw [if_neg h1]
  exact chkF_zero _ _ h
theorem par_tree {l : List UInt8} {x : Nd} (h : parseP l = .tree x) : (Lx.lex l).2.1 = 0 ∧ Ps.whole ((Lx.lex l).1 ++ [Ps.theEndT (l.length : Int)]) = .ok x [] ∧ (checkE x).1 = 0 := by
 unfold parseP parseT at h
 by_cases h0 : (Lx.lex l).2.1 = 0
 ·rw [if_pos h0] at h
  rcases Ps.whole_d (l' := []) (show En ((Lx.lex l).1 ++ [Ps.theEndT (l.length : Int)]) from ⟨_, _, rfl, rfl⟩) with ⟨y, h1, _⟩ | ⟨i, _, h1, _⟩
  ·rw [h1] at h
   by_cases hc : (checkE y).1 = 0
   ·simp only [hc, if_true] at h
    injection h with h
    subst h
    exact ⟨h0, h1, hc⟩
   ·simp only [hc, if_false] at h
    cases h
  ·rw [h1] at h; cases h
 ·rw [if_neg h0] at h; cases h
theorem par_make {l : List UInt8} {L : List Lx.T} {x : Nd} (h : Lx.lex l = (L, 0, 0)) (h1 : Ps.whole (L ++ [Ps.theEndT (l.length : Int)]) = .ok x []) (hc : (checkE x).1 = 0) : parseP l = .tree x := by
 unfold parseP parseT
 rw [h]
 show (if (0 : Int) = 0 then (match Ps.whole (L ++ [Ps.theEndT (l.length : Int)]) with
  | .bad q => PR.fault 5 q
  | .ok x _ => if (checkE x).1 = 0 then .tree x else .fault (checkE x).1 0) else .fault 0 0) = .tree x
 rw [if_pos rfl, h1]
 show (if (checkE x).1 = 0 then PR.tree x else .fault (checkE x).1 0) = .tree x
 rw [if_pos hc]
theorem par_badW {l : List UInt8} {L : List Lx.T} {q : Int} (h : Lx.lex l = (L, 0, 0)) (h1 : Ps.whole (L ++ [Ps.theEndT (l.length : Int)]) = .bad q) : parseP l = .fault 5 q := by
 unfold parseP parseT
 rw [h]
 show (if (0 : Int) = 0 then (match Ps.whole (L ++ [Ps.theEndT (l.length : Int)]) with
  | .bad q => PR.fault 5 q
  | .ok x _ => if (checkE x).1 = 0 then .tree x else .fault (checkE x).1 0) else .fault 0 0) = .fault 5 q
 rw [if_pos rfl, h1]
theorem AlN.app : ∀ (a a' b b' : List Lx.T) (m : Nat), a.length = a'.length → AlN a.length a a' → AlN m b b' → AlN (a.length + m) (a ++ b) (a' ++ b')
 | [], [], b, b', m, _, _, h => by rw [show ([] : List Lx.T).length + m = m by simp]; exact h
 | t :: r, t' :: r', b, b', m, e, h1, h2 => by
  rw [show (t :: r).length + m = (r.length + m) + 1 by simp; omega]
  exact ⟨h1.1, AlN.app r r' b b' m (by simpa using e) h1.2 h2⟩
 | [], _ :: _, _, _, _, e, _, _ => by simp at e
 | _ :: _, [], _, _, _, e, _, _ => by simp at e
theorem AlN.le : ∀ {n m : Nat} {l l' : List Lx.T}, AlN n l l' → m ≤ n → AlN m l l'
 | _, 0, _, _, _, _ => trivial
 | n + 1, m + 1, t :: r, t' :: r', h, hm => ⟨h.1, AlN.le h.2 (by omega)⟩
 | n + 1, m + 1, [], _, h, _ => h.elim
 | n + 1, m + 1, _ :: _, [], h, _ => h.elim
 | 0, m + 1, _, _, _, hm => by omega
theorem aln_placed : ∀ (p : Nat) (r : List Lx.T), AlN r.length r (Lx.placed p r)
 | _, [] => trivial
 | p, x :: r => ⟨⟨rfl, rfl, rfl⟩, aln_placed _ r⟩
theorem aln_end (n m : Int) : AlN 1 [Ps.theEndT n] [Ps.theEndT m] := ⟨⟨rfl, rfl, rfl⟩, trivial⟩
/-- What hangs on the tokens alone. -/
theorem whole_like {a a' : List Lx.T} {n m : Int} {x : Nd} (hl : a.length = a'.length) (h : AlN a.length a a') (hw : Ps.whole (a ++ [Ps.theEndT n]) = .ok x []) : Ps.whole (a' ++ [Ps.theEndT m]) = .ok x [] := by
 have hA := AlN.app a a' _ _ 1 hl h (aln_end n m)
 rcases Ps.whole_d (l' := a' ++ [Ps.theEndT m]) (show En (a ++ [Ps.theEndT n]) from ⟨_, _, rfl, rfl⟩) with ⟨y, h1, h2⟩ | ⟨i, _, h1, _⟩
 ·rw [hw] at h1
  injection h1 with h1
  subst h1
  exact h2 (by rw [List.length_append]; exact hA)
 ·rw [hw] at h1; cases h1
/-- Tokens with one space between two. -/
theorem join_par {L : List Lx.T} {n : Int} {x : Nd} (hx : ∀ t ∈ L, Lx.isTok t = true) (hl : (Lx.joinB L).length ≤ 20000) (hw : Ps.whole (L ++ [Ps.theEndT n]) = .ok x []) (hc : (checkE x).1 = 0) : parseP (Lx.joinB L) = .tree x :=
 par_make (Lx.joined_lex hx hl) (whole_like (Lx.placed_len 0 L).symm (aln_placed 0 L) hw) hc
theorem par_again {l : List UInt8} {x : Nd} (h : parseP l = .tree x) (hl : l.length ≤ 6000) : (Lx.lex l).2 = (0, 0) ∧ (∀ t ∈ (Lx.lex l).1, Lx.isTok t = true) ∧ (Lx.joinB (Lx.lex l).1).length ≤ 3 * l.length ∧ parseP (Lx.joinB (Lx.lex l).1) = .tree x ∧ checkE x = (0, 0) := by
 obtain ⟨h0, h1, h2⟩ := par_tree h
 have hj := Lx.lex_join_len h0
 have ht := Lx.lex_isTok h0
 refine ⟨?_, ht.2, hj, join_par ht.2 (by omega) h1 h2, check_zero h2⟩
 rw [(Lx.lex_ok h0 ht.1).2]
/-- Where a fault lies. -/
theorem tok_pos {l : List UInt8} (h : (Lx.lex l).2.1 = 0) : ∀ t ∈ (Lx.lex l).1, 0 ≤ t.pos ∧ t.pos < (l.length : Int) := by
 intro t ht
 obtain ⟨h1, h2⟩ := Lx.lex_ok h (Lx.lex_isTok h).1
 rw [h2] at ht
 obtain ⟨q, hq, rfl⟩ := List.mem_map.1 ht
 obtain ⟨P, e, _, h3⟩ := (Lx.seqF_asc _ _ _ _ rfl h1).1 q hq
 rw [e]
 omega
theorem at0_mem : ∀ (l : List Lx.T) (i : Nat), i < l.length → ∃ t ∈ l, Ps.at0 (l.drop i) = t.pos
 | t :: l, 0, _ => ⟨t, by simp, rfl⟩
 | t :: l, i + 1, h => by
  obtain ⟨u, hu, e⟩ := at0_mem l i (by simpa using h)
  exact ⟨u, by simp [hu], e⟩
 | [], i, h => by simp at h
theorem par_fault {l : List UInt8} {e a : Int} (h : parseP l = .fault e a) (hl : l.length ≤ 20000) : 0 ≤ a ∧ a ≤ (l.length : Int) := by
 unfold parseP parseT at h
 by_cases h0 : (Lx.lex l).2.1 = 0
 ·rw [if_pos h0] at h
  rcases Ps.whole_d (l' := []) (show En ((Lx.lex l).1 ++ [Ps.theEndT (l.length : Int)]) from ⟨_, _, rfl, rfl⟩) with ⟨y, h1, _⟩ | ⟨i, hi, h1, _⟩
  ·rw [h1] at h
   by_cases hc : (checkE y).1 = 0
   ·simp only [hc, if_true] at h; cases h
   ·simp only [hc, if_false] at h
    injection h with _ h
    omega
  ·rw [h1] at h
   injection h with _ h
   obtain ⟨t, ht, e⟩ := at0_mem _ i hi
   rw [e] at h
   rcases List.mem_append.1 ht with ht | ht
   ·have := tok_pos h0 t ht; omega
   ·rw [List.mem_singleton] at ht
    subst ht
    have : (l.length : Int) = a := h
    omega
 ·rw [if_neg h0] at h
  injection h with _ h
  have := Lx.lex_fault hl h0
  omega
end Go.Proofs.YtfkmnpgpfmkjaaaGreatDoor
namespace Go.Proofs.YtfkmnpgpfmkjaaaGreatDoor
open Go.ChangeShapes Go.WideShapes Go.ChangeAt Go.RowKit Go.Shelf
attribute [local go_sem] Oper.semAt_some
theorem tok_okT {x : Lx.T} (h : Lx.isTok x = true) : TokOk x := by
 obtain ⟨_, h1, h2, h3⟩ := Lx.isTok_small h
 exact ⟨by omega, h3, by omega⟩
/-- A fault's box, made and then written. -/
theorem one_box (w : World) (e a : Int) {Z W : World} (h6 : w.alloc (.cells #[.int .i64 0, .int .i64 0] 36) = Z) (h7 : (Z.setCell ⟨w.heap.size, 0, none⟩ (.int .i64 e)).setCell ⟨w.heap.size, 1, none⟩ (.int .i64 a) = W) :
  Blk Z w.heap.size 36 #[.int .i64 0, .int .i64 0] ∧ Blk W w.heap.size 36 #[.int .i64 e, .int .i64 a] ∧ Kept w W := by
 have b6 : Blk Z w.heap.size 36 #[.int .i64 0, .int .i64 0] := by rw [← h6]; exact Blk.new _ _ _
 have k6 : Kept w Z := by rw [← h6]; exact (Kept.refl _).alloc _
 have o7 : Only (· = w.heap.size) Z W := by rw [← h7]; exact ((Only.refl _ _).put 0 _).put 1 _
 have c8 : Blk W w.heap.size 36 #[.int .i64 e, .int .i64 a] := by
  rw [← h7]
  have := (b6.put 0 (.int .i64 e)).put 1 (.int .i64 a)
  simpa using this
 exact ⟨b6, c8, k6.only o7 rfl (fun k hk => by omega)⟩
set_option maxHeartbeats 8000000 in
theorem pblanks_c (a : Option Addr) (c : Nat) (l : List UInt8) (w : World) (hs : SrcAt w (.slice a l.length c) l) (hT : PTab w) (hP : Pw w) :
  Calls Tryz.prog 4 #[.slice a l.length c] w fun e w' => e = .returned (.bool true) ∧ Kept w w' := by
 have HTB := Lib.hid hT
 have HPW := Lib.hid hP
 have HKK := Lib.hid (Kept.refl w)
 have HSR := Lib.hid hs
 clear hT hP hs
 go_enter Tryz.func4, Tryz.ntmps4
 go_wp2_with fail
 refine (pknown_c _ HTB.out).mono ?_
 rintro e w1 ⟨rfl, k1⟩
 replace HTB := Lib.hid (HTB.out.kept k1)
 replace HPW := Lib.hid (HPW.out.kept k1)
 replace HSR := Lib.hid (src_kept HSR.out k1)
 replace HKK := Lib.hid (HKK.out.trans k1)
 clear k1
 by_cases hl : 2000 < l.length
 ·have hlI : (2000 : Int) < (l.length : Int) := by omega
  clear hl
  go_wp2_with fail
  go_ret
  exact ⟨rfl, HKK.out⟩
 have hlI : ¬ (2000 : Int) < (l.length : Int) := by omega
 have HL := Lib.hid hl
 clear hl
 have HPC := Lib.hid (parse_c a c l w1 HSR.out HTB.out.tb HTB.out.er HTB.out.so)
 go_wp2_with fail
 refine HPC.out.mono ?_
 rintro e w5 (⟨x, ks, v, h1, rfl, hx, hk, hok, hcnt, hce, k5⟩ | ⟨er, ea, h1, h0, rfl, k5⟩)
 rotate_left
 ·-- a fault
  have hfa := par_fault h1 (by have := HL.out; omega)
  obtain ⟨Z6, h6⟩ : ∃ Z, (w5.alloc (.cells pzN nT)).alloc (.cells #[.int .i64 0, .int .i64 0] 36) = Z := ⟨_, rfl⟩
  obtain ⟨Z7, h7⟩ : ∃ Z, put6n Z6 w5.heap.size (Ps.nd 0 Ps.e0 Ps.e0 0 []) (.slice none 0 0) = Z := ⟨_, rfl⟩
  obtain ⟨W7, hW7⟩ : ∃ Z, (Z7.setCell ⟨w5.heap.size + 1, 0, none⟩ (.int .i64 er)).setCell ⟨w5.heap.size + 1, 1, none⟩ (.int .i64 ea) = Z := ⟨_, rfl⟩
  obtain ⟨t1, t2, b6, b7, k7⟩ := two_boxes w5 (Ps.nd 0 Ps.e0 Ps.e0 0 []) (.slice none 0 0) er ea h6 h7 hW7
  have HZ6 := Lib.hid h6
  have HZ7 := Lib.hid (show (((((Z6.setCell ⟨w5.heap.size, 0, none⟩ (.int .i64 0)).setCell ⟨w5.heap.size, 1, none⟩ (.string ⟨#[]⟩)).setCell ⟨w5.heap.size, 2, none⟩ (.string ⟨#[]⟩)).setCell ⟨w5.heap.size, 3, none⟩ (.string ⟨#[]⟩)).setCell ⟨w5.heap.size, 4, none⟩ (.int .i64 0)).setCell ⟨w5.heap.size, 5, none⟩ (.slice none 0 0) = Z7 from h7)
  obtain ⟨⟨q0, q1, q2, q3, q4, q5⟩, f0, f1, f2, f3, f4, f5⟩ := nd_six t1
  have p0 := t2.cell 0
  have p1 := t2.cell 1
  have r0 := t2.frozen 0
  have r1 := t2.frozen 1
  clear t1 t2 h6 h7
  obtain ⟨⟨y0, y1, y2, y3, y4, y5⟩, _⟩ := nd_six (show Blk W7 w5.heap.size nT pzN from b6)
  have i0 := b7.cell 0
  have i1 := b7.cell 1
  have hb2 : (er != 0) = true := by simpa using h0
  have HSN := Lib.hid (show Calls Tryz.prog 17 #[.agg #[.int .i64 0, .string ⟨#[]⟩, .string ⟨#[]⟩, .string ⟨#[]⟩, .int .i64 0, .slice none 0 0], .agg #[.int .i64 0, .string ⟨#[]⟩, .string ⟨#[]⟩, .string ⟨#[]⟩, .int .i64 0, .slice none 0 0]] W7 (fun e w' => e = .returned (.bool true) ∧ Kept W7 w') from sameN_c (Ps.nd 0 Ps.e0 Ps.e0 0 []) none 0 none 0 W7 Row.nil Row.nil)
  have HK7 := Lib.hid ((HKK.out.trans k5).trans k7)
  have HW7 := Lib.hid hW7
  have HB7 := Lib.hid b7
  have ha0 := hfa.1
  have ha1 := hfa.2
  clear k5 hW7 k7 b6 b7 HPC h0 h1 hfa
  go_wp2_with (first | rw [HZ6.out] | rw [HZ7.out] | rw [HW7.out])
  refine HSN.out.mono ?_
  rintro e w8 ⟨rfl, k8⟩
  have i0 := k8.cell i0
  have i1 := k8.cell i1
  have HK8 := Lib.hid (HK7.out.trans k8)
  clear k8
  go_wp2_with fail
  go_ret
  exact ⟨rfl, HK8.out⟩
 obtain ⟨a5, c5, rfl⟩ := hk.slice
 have hl5 : ks.length = x.kids.length := by rw [hx, List.length_map]
 have hkk : KidsAt w5 (.slice a5 x.kids.length c5) x.kids := by
  have := hk.kids.at
  rw [← hx, hl5] at this
  exact this
 rw [hl5]
 obtain ⟨g1, g2, g3, g4, g5⟩ := par_again h1 (by have := HL.out; omega)
 obtain ⟨Z6, h6⟩ : ∃ Z, (w5.alloc (.cells pzN nT)).alloc (.cells #[.int .i64 0, .int .i64 0] 36) = Z := ⟨_, rfl⟩
 obtain ⟨Z7, h7⟩ : ∃ Z, put6n Z6 w5.heap.size x (.slice a5 x.kids.length c5) = Z := ⟨_, rfl⟩
 obtain ⟨W7, hW7⟩ : ∃ Z, (Z7.setCell ⟨w5.heap.size + 1, 0, none⟩ (.int .i64 0)).setCell ⟨w5.heap.size + 1, 1, none⟩ (.int .i64 0) = Z := ⟨_, rfl⟩
 obtain ⟨t1, t2, b6, b7, k7⟩ := two_boxes w5 x (.slice a5 x.kids.length c5) 0 0 h6 h7 hW7
 have HZ6 := Lib.hid h6
 have HZ7 := Lib.hid (show (((((Z6.setCell ⟨w5.heap.size, 0, none⟩ (.int .i64 x.kind)).setCell ⟨w5.heap.size, 1, none⟩ (.string x.text)).setCell ⟨w5.heap.size, 2, none⟩ (.string x.typ)).setCell ⟨w5.heap.size, 3, none⟩ (.string x.frm)).setCell ⟨w5.heap.size, 4, none⟩ (.int .i64 x.n)).setCell ⟨w5.heap.size, 5, none⟩ (.slice a5 x.kids.length c5) = Z7 from h7)
 have HW7 := Lib.hid hW7
 obtain ⟨⟨q0, q1, q2, q3, q4, q5⟩, f0, f1, f2, f3, f4, f5⟩ := nd_six t1
 have p0 := t2.cell 0
 have p1 := t2.cell 1
 have r0 := t2.frozen 0
 have r1 := t2.frozen 1
 have i0 := b7.cell 0
 replace HTB := Lib.hid ((HTB.out.kept k5).kept k7)
 replace HPW := Lib.hid ((HPW.out.kept k5).kept k7)
 replace HSR := Lib.hid (src_kept (src_kept HSR.out k5) k7)
 replace HKK := Lib.hid ((HKK.out.trans k5).trans k7)
 have HB6 := Lib.hid b6
 have HMK := Lib.hid (show Mk W7 x (.slice a5 x.kids.length c5) from ⟨hok, a5, c5, rfl, KidsD.kept hkk k7⟩)
 have HCN := Lib.hid hcnt
 have HLX := Lib.hid (lex_c a c l W7 HSR.out HTB.out.tb HTB.out.er)
 have HG := Lib.hid (And.intro g1 (And.intro g2 (And.intro g3 (And.intro g4 g5))))
 clear t1 t2 h6 h7 hW7 b6 b7 k5 k7 hx hk hok hcnt hce hkk hl5 g1 g2 g3 g4 g5 h1 HPC
 go_wp2_with (first | rw [HZ6.out] | rw [HZ7.out] | rw [HW7.out])
 clear q0 q1 q2 q3 q4 q5 f0 f1 f2 f3 f4 f5 p0 p1 r0 r1 i0
 refine HLX.out.mono ?_
 rintro e w8 ⟨a8, c8, rfl, ht8, k8⟩
 obtain ⟨L, hL⟩ : ∃ L, (Lx.lex l).1 = L := ⟨_, rfl⟩
 have he1 : (Lx.lex l).2.1 = 0 := by rw [HG.out.1]
 have he2 : (Lx.lex l).2.2 = 0 := by rw [HG.out.1]
 rw [he1, he2, hL]
 rw [hL] at ht8 HG
 obtain ⟨Z9, hZ9⟩ : ∃ Z, w8.alloc (.cells #[.int .i64 0, .int .i64 0] 36) = Z := ⟨_, rfl⟩
 obtain ⟨W9, hW9⟩ : ∃ Z, (Z9.setCell ⟨w8.heap.size, 0, none⟩ (.int .i64 0)).setCell ⟨w8.heap.size, 1, none⟩ (.int .i64 0) = Z := ⟨_, rfl⟩
 obtain ⟨z9, b9, k9⟩ := one_box w8 0 0 hZ9 hW9
 have HZ9 := Lib.hid hZ9
 have HW9 := Lib.hid hW9
 have p0 := z9.cell 0
 have p1 := z9.cell 1
 have r0 := z9.frozen 0
 have r1 := z9.frozen 1
 clear z9 hZ9
 replace HTB := Lib.hid ((HTB.out.kept k8).kept k9)
 replace HPW := Lib.hid ((HPW.out.kept k8).kept k9)
 replace HKK := Lib.hid ((HKK.out.trans k8).trans k9)
 replace HMK := Lib.hid ((HMK.out.kept k8).kept k9)
 replace HB6 := Lib.hid ((HB6.out.kept k8).kept k9)
 have HB9 := Lib.hid b9
 have HJN := Lib.hid (join_c L a8 c8 W9 (tks_kept ht8 k9) HTB.out.tb HPW.out HTB.out.er (fun t ht => tok_okT (HG.out.2.1 t ht)) (by have := HG.out.2.2.1; have := HL.out; omega))
 rw [show L.all Lx.isTok = true from List.all_eq_true.2 HG.out.2.1] at HJN
 have HJN := Lib.hid (show Calls Tryz.prog 19 #[.slice a8 L.length c8] W9 fun e w' => e = .returned (.tuple #[.string ⟨(Lx.joinB L).toArray⟩, .int .i64 0]) ∧ Kept W9 w' from HJN.out)
 clear hW9 b9 k8 k9 ht8 he1 he2 HLX
 go_wp2_with (first | rw [HZ9.out] | rw [HW9.out])
 clear p0 p1 r0 r1
 refine HJN.out.mono ?_
 rintro e w10 ⟨rfl, k10⟩
 replace HTB := Lib.hid (HTB.out.kept k10)
 replace HPW := Lib.hid (HPW.out.kept k10)
 replace HKK := Lib.hid (HKK.out.trans k10)
 replace HMK := Lib.hid (HMK.out.kept k10)
 have b6 := HB6.out.kept k10
 have b9 := HB9.out.kept k10
 have i0 := b9.cell 0
 have i1 := b9.cell 1
 obtain ⟨⟨y0, y1, y2, y3, y4, y5⟩, _⟩ := nd_six b6
 obtain ⟨S, hS⟩ : ∃ S : ByteArray, (⟨(Lx.joinB L).toArray⟩ : ByteArray) = S := ⟨_, rfl⟩
 have hSl : S.data.toList = Lx.joinB L := by rw [← hS]
 have hSz : S.size ≤ 1000000 := by
  have : S.size = (Lx.joinB L).length := by rw [← hSl, Array.length_toList]; rfl
  have := HG.out.2.2.1
  have := HL.out
  omega
 have HMN := Lib.hid (means_c S hSz x (.slice a5 x.kids.length c5) w10 HTB.out HMK.out (by rw [hSl]; exact HG.out.2.2.2.1))
 rw [hS]
 have HB6' := Lib.hid b6
 have hqF : ∀ W, (binOp .eql 36 (fagg 0 0) (fagg 0 0)).run Tryz.prog W = .ok (.bool true) W := fun W => eqF 0 0 0 0 W
 clear hS hSl hSz k10 b6 b9 HJN
 go_wp2_with fail
 refine HMN.out.mono ?_
 rintro e w11 ⟨rfl, k11⟩
 replace HTB := Lib.hid (HTB.out.kept k11)
 replace HKK := Lib.hid (HKK.out.trans k11)
 replace HMK := Lib.hid (HMK.out.kept k11)
 clear y0 y1 y2 y3 y4 y5 i0 i1
 obtain ⟨⟨y0, y1, y2, y3, y4, y5⟩, _⟩ := nd_six (HB6'.out.kept k11)
 have HCH := Lib.hid (show Calls Tryz.prog 20 #[ndV x (.slice a5 x.kids.length c5)] w11 (fun e w' => e = .returned (.agg #[.int .i64 0, .int .i64 0]) ∧ Kept w11 w') from by
  obtain ⟨hok, a', c', e, hk'⟩ := HMK.out
  injection e with e1 e2 e3
  subst e1 e3
  have := check_c x a5 c5 w11 HTB.out.tb hok hk' (by have := HCN.out; omega)
  rw [HG.out.2.2.2.2] at this
  exact this)
 clear k11 HMN
 go_wp2_with fail
 refine HCH.out.mono ?_
 rintro e w12 ⟨rfl, k12⟩
 have HK12 := Lib.hid (HKK.out.trans k12)
 clear k12
 go_wp2_with fail
 go_ret
 exact ⟨rfl, HK12.out⟩
namespace Pr
open Ps (O En Fin run post unary oper expr postLoop lvl is mem levels kDot kOpen kShut kEq kComma kSemi kLeft kRight kColon nd e0 aName aClass kAny AlN LkH Det Stop)
theorem aln_left : ∀ (M a b : List T), AlN M.length (M ++ a) (M ++ b)
 | [], _, _ => trivial
 | t :: M, a, b => ⟨⟨rfl, rfl, rfl⟩, aln_left M a b⟩
/-- The closing tokens of a main, and these with a ; ahead. -/
abbrev cl (e : T) : List T := [sgn kRight, e]
abbrev cs (e : T) : List T := [sgn kSemi, sgn kRight, e]
theorem en_cl {e : T} (he : e.kind = 0) (M : List T) : En (M ++ cl e) := ⟨M ++ [sgn kRight], e, by simp, he⟩
theorem entry_first {F : Ps.Fam} {l r : List T} {a : Nd} (h : Ps.entry F l = .ok a r) (hF : ∀ l r a, F .expr l = .ok a r → mem Ps.firstE (Ps.hd l) = true) : mem (⟨#[108, 101, 116]⟩ :: Ps.firstE) (Ps.hd l) = true := by
 unfold Ps.entry at h
 cases hi : is [⟨#[108, 101, 116]⟩] l with
 | true =>
  have hi : mem [⟨#[108, 101, 116]⟩] (Ps.hd l) = true := hi
  rw [Ps.mem_cons] at hi ⊢
  rw [Bool.or_eq_true] at hi ⊢
  rcases hi with h | h
  ·exact .inl h
  ·cases h
 | false =>
  rw [hi, if_neg (by decide)] at h
  rw [Ps.mem_cons, hF _ _ _ h, Bool.or_true]
theorem run_first {k : Nat} : ∀ l r a, run k .expr l = .ok a r → mem Ps.firstE (Ps.hd l) = true := by
 intro l r a h
 cases k with
 | zero => cases h
 | succ k => exact Ps.expr_first h
def lastSemi (M : List T) : Prop := ∃ M0 t, M = M0 ++ [t] ∧ Ps.srt t = kSemi
theorem lastSemi.cons {M : List T} (a : List T) (h : lastSemi M) : lastSemi (a ++ M) := by
 obtain ⟨M0, t, rfl, ht⟩ := h
 exact ⟨a ++ M0, t, by rw [List.append_assoc], ht⟩
/-- How the first entry of what is left goes on. -/
theorem entry_step {K K' : Nat} {M : List T} {e : T} (he : e.kind = 0) (h1 : (M ++ cl e).length ≤ K) (h2 : (M ++ cs e).length ≤ K') {x : Nd} {r : List T} (hx : Ps.entry (run K) (M ++ cl e) = .ok x r) :
  ∃ n, 1 ≤ n ∧ r = (M ++ cl e).drop n ∧ En r ∧ (LkH r ((M ++ cs e).drop n) → n ≤ M.length → Ps.entry (run K') (M ++ cs e) = .ok x ((M ++ cs e).drop n)) := by
 rcases Ps.entry_d (Ps.run_d K K') (en_cl he M) h1 h2 with ⟨a, n, hn, hE, hfa, hj⟩ | ⟨i, _, hb, _⟩
 ·rw [hx] at hfa
  injection hfa with e1 e2
  subst e1
  refine ⟨n, hn, e2, by rw [e2]; exact hE, fun hL hM => hj ?_ (by rw [← e2]; exact hL)⟩
  exact AlN.le (aln_left M _ _) hM
 ·rw [hx] at hb; cases hb
theorem loop_more {F : Ps.Fam} : ∀ (k : Nat) (acc : List Nd) (l r : List T) (b : Nd), Ps.blockLoop F k acc l = .ok b r → acc.length ≤ b.kids.length
 | 0, _, _, _, _, h => by cases h
 | k + 1, acc, l, r, b, h => by
  rw [Ps.blockLoop] at h
  by_cases hi : is [kRight] l = true
  ·rw [hi, if_pos rfl] at h
   injection h with h _
   subst h
   exact Nat.le_refl _
  ·rw [if_neg hi] at h
   cases hx : Ps.entry F l with
   | bad p => rw [hx] at h; cases h
   | ok x s =>
    rw [hx, O.bind_ok] at h
    by_cases hs : is [kSemi] s = true
    ·rw [hs, if_pos rfl] at h
     have := loop_more k _ _ _ _ h
     simp at this
     omega
    ·rw [if_neg hs] at h
     cases ht : Ps.take [kRight] s with
     | bad p => rw [ht] at h; cases h
     | ok u s2 =>
      rw [ht, O.bind_ok] at h
      injection h with h _
      subst h
      show acc.length ≤ (acc ++ [x]).length
      simp
theorem loop_kids {F : Ps.Fam} {k : Nat} {acc : List Nd} {x : Nd} {l r : List T} {b : Nd} (hr : is [kRight] l = false) (h : Ps.blockLoop F (k + 1) (acc ++ [x]) l = .ok b r) : acc.length + 2 ≤ b.kids.length := by
 rw [Ps.blockLoop, hr, if_neg (by decide)] at h
 cases hx : Ps.entry F l with
 | bad p => rw [hx] at h; cases h
 | ok y s =>
  rw [hx, O.bind_ok] at h
  by_cases hs : is [kSemi] s = true
  ·rw [hs, if_pos rfl] at h
   have := loop_more k _ _ _ _ h
   simp at this
   omega
  ·rw [if_neg hs] at h
   cases ht : Ps.take [kRight] s with
   | bad p => rw [ht] at h; cases h
   | ok u s2 =>
    rw [ht, O.bind_ok] at h
    injection h with h _
    subst h
    show acc.length + 2 ≤ ((acc ++ [x]) ++ [y]).length
    simp
theorem loop_semi {K K' : Nat} {e : T} (he : e.kind = 0) : ∀ (k : Nat) (acc : List Nd) (M : List T) (k' : Nat) (b : Nd), (M ++ cl e).length ≤ K → (M ++ cs e).length ≤ K' → (M ++ cs e).length ≤ k' → (∀ t ∈ M, Ps.srt t ≠ Ps.theEnd) →
  Ps.blockLoop (run K) k acc (M ++ cl e) = .ok b [e] →
  ((M = [] ∨ lastSemi M) ∧ ∃ p, Ps.blockLoop (run K') k' acc (M ++ cs e) = .bad p) ∨
  (Ps.blockLoop (run K') k' acc (M ++ cs e) = .ok b [e] ∧ (b.kids.length = acc.length + 1 → ∃ y, Ps.entry (run K) (M ++ cl e) = .ok y (cl e) ∧ b = nd 6 e0 e0 0 (acc ++ [y]))) := by
 intro k
 induction k with
 | zero => intro acc M k' b _ _ _ _ h; cases h
 | succ k ih =>
  intro acc M k' b h1 h2 h3 hM h
  obtain ⟨k', rfl⟩ : ∃ q, k' = q + 1 := ⟨k' - 1, by rw [len_app] at h3; simp at h3; omega⟩
  rw [Ps.blockLoop] at h
  cases M with
  | nil =>
   left
   refine ⟨.inl rfl, ?_⟩
   show ∃ p, Ps.blockLoop (run K') (k' + 1) acc (sgn kSemi :: sgn kRight :: [e]) = .bad p
   rw [Ps.blockLoop, is_sg (show mem [kRight] kSemi = false by decide), if_neg (by decide)]
   cases hx : Ps.entry (run K') (sgn kSemi :: sgn kRight :: [e]) with
   | bad p => exact ⟨p, rfl⟩
   | ok x r => exact absurd (entry_first hx run_first) (show ¬ mem (⟨#[108, 101, 116]⟩ :: Ps.firstE) kSemi = true by decide)
  | cons t M' =>
   have hr : is [kRight] (t :: M' ++ cl e) = false := by
    cases hi : is [kRight] (t :: M' ++ cl e) with
    | false => rfl
    | true =>
     exfalso
     rw [hi, if_pos rfl] at h
     injection h with _ h
     have := congrArg List.length h
     simp at this
   rw [hr, if_neg (by decide)] at h
   cases hx : Ps.entry (run K) (t :: M' ++ cl e) with
   | bad p => rw [hx] at h; cases h
   | ok x r =>
    rw [hx, O.bind_ok] at h
    obtain ⟨n, hn, e2, hEr, hj⟩ := entry_step he h1 h2 hx
    have hr' : is [kRight] (t :: M' ++ cs e) = false := hr
    have hlen : (t :: M' ++ cl e).length = M'.length + 3 := by simp
    have hnl : n < M'.length + 3 := by
     have := hEr.pos
     rw [e2, List.length_drop] at this
     omega
    by_cases hs : is [kSemi] r = true
    ·rw [hs, if_pos rfl] at h
     have hlt : n ≤ M'.length := by
      rcases Nat.lt_or_ge M'.length n with hc | hc
      ·exfalso
       rcases Nat.lt_or_ge (M'.length + 1) n with hc2 | hc2
       ·obtain rfl : n = M'.length + 2 := by omega
        have : r = [e] := by rw [e2]; simp [List.drop_append]
        rw [this] at hs
        have : mem [kSemi] (Ps.srt e) = true := hs
        rw [Ps.srt_fin he] at this
        exact absurd this (by decide)
       ·obtain rfl : n = M'.length + 1 := by omega
        have : r = cl e := by rw [e2]; simp [List.drop_append]
        rw [this] at hs
        exact absurd (show mem [kSemi] kRight = true from hs) (by decide)
      ·exact hc
     obtain ⟨u, M2, hu⟩ : ∃ u M2, (t :: M').drop n = u :: M2 := by
      cases hd : (t :: M').drop n with
      | nil => rw [List.drop_eq_nil_iff] at hd; simp at hd; omega
      | cons u M2 => exact ⟨u, M2, rfl⟩
     have er : r = u :: (M2 ++ cl e) := by rw [e2, List.drop_append_of_le_length (by simp; omega), hu]; rfl
     have er' : (t :: M' ++ cs e).drop n = u :: (M2 ++ cs e) := by rw [List.drop_append_of_le_length (by simp; omega), hu]; rfl
     have hM2 : M2.length + n = M'.length := by have := congrArg List.length hu; rw [List.length_drop] at this; simp at this; omega
     have hx' := hj (by rw [er, er']; exact .inl (Ps.Al1.refl u)) (by simp; omega)
     rw [er'] at hx'
     rw [er] at h hs
     have hu1 : Ps.srt u = kSemi := by
      have : mem [kSemi] (Ps.srt u) = true := hs
      rw [Ps.mem_cons] at this
      simpa [Ps.mem, eq_comm] using this
     have hsplit : t :: M' = (t :: M').take n ++ u :: M2 := by rw [← hu, List.take_append_drop]
     have key : Ps.blockLoop (run K') (k' + 1) acc (t :: M' ++ cs e) = Ps.blockLoop (run K') k' (acc ++ [x]) (M2 ++ cs e) := by
      rw [Ps.blockLoop, hr', if_neg (by decide), hx', O.bind_ok, show is [kSemi] (u :: (M2 ++ cs e)) = true from hs, if_pos rfl]
      rfl
     rw [key]
     simp at h1 h2 h3
     rcases ih (acc ++ [x]) M2 k' b (by simp; omega) (by simp; omega) (by simp; omega) (fun z hz => hM z (by rw [hsplit]; simp [hz])) h with ⟨h4, h5⟩ | ⟨h4, h5⟩
     ·left
      refine ⟨.inr ?_, h5⟩
      rcases h4 with rfl | h4
      ·exact ⟨(t :: M').take n, u, by rw [← hsplit], hu1⟩
      ·rw [hsplit, show (t :: M').take n ++ u :: M2 = ((t :: M').take n ++ [u]) ++ M2 by simp]
       exact h4.cons _
     ·right
      refine ⟨h4, fun hk => ?_⟩
      exfalso
      -- one entry and a ; : the others are none
      have hb : acc.length + 2 ≤ b.kids.length ∨ M2 = [] := by
       cases k with
       | zero => cases h
       | succ k =>
        cases M2 with
        | nil => exact .inr rfl
        | cons v M3 =>
         left
         have hv : is [kRight] (v :: M3 ++ cl e) = false := by
          cases hi : is [kRight] (v :: M3 ++ cl e) with
          | false => rfl
          | true =>
           exfalso
           have h' : Ps.blockLoop (run K) (k + 1) (acc ++ [x]) (v :: M3 ++ cl e) = .ok b [e] := h
           rw [Ps.blockLoop, hi, if_pos rfl] at h'
           injection h' with _ h'
           have := congrArg List.length h'
           simp at this
         have h' : Ps.blockLoop (run K) (k + 1) (acc ++ [x]) (v :: M3 ++ cl e) = .ok b [e] := h
         exact loop_kids hv h'
      rcases hb with hb | rfl
      ·omega
      ·cases k' with
       | zero => cases h4
       | succ k' =>
        have h4 : Ps.blockLoop (run K') (k' + 1) (acc ++ [x]) (sgn kSemi :: sgn kRight :: [e]) = .ok b [e] := h4
        rw [Ps.blockLoop, is_sg (show mem [kRight] kSemi = false by decide), if_neg (by decide)] at h4
        cases hx : Ps.entry (run K') (sgn kSemi :: sgn kRight :: [e]) with
        | bad p => rw [hx] at h4; cases h4
        | ok x r => exact absurd (entry_first hx run_first) (show ¬ mem (⟨#[108, 101, 116]⟩ :: Ps.firstE) kSemi = true by decide)
    ·have hs : is [kSemi] r = false := by simpa using hs
     rw [hs, if_neg (by decide)] at h
     right
     cases r with
     | nil => cases h
     | cons u r2 =>
      by_cases hm : mem [kRight] (Ps.srt u) = true
      ·rw [Ps.take_yes hm, O.bind_ok] at h
       injection h with h h'
       subst h'
       have hnM : n = M'.length + 1 := by
        have := congrArg List.length e2
        rw [List.length_drop] at this
        simp at this
        omega
       have er : u :: [e] = cl e := by rw [e2, hnM]; simp [List.drop_append]
       have er' : (t :: M' ++ cs e).drop n = cs e := by rw [hnM]; simp [List.drop_append]
       have hx' := hj (by rw [er, er']; exact .inr ⟨.inr (.inl rfl), .inr (.inr rfl)⟩) (by simp; omega)
       rw [er'] at hx'
       rw [er] at hx
       refine ⟨?_, fun _ => ⟨x, by rw [er], h.symm⟩⟩
       rw [Ps.blockLoop, hr', if_neg (by decide), hx', O.bind_ok, show is [kSemi] (cs e) = true from is_sg (by decide), if_pos rfl]
       show Ps.blockLoop (run K') k' (acc ++ [x]) (sgn kRight :: [e]) = _
       obtain ⟨q, rfl⟩ : ∃ q, k' = q + 1 := ⟨k' - 1, by simp at h3; omega⟩
       rw [Ps.blockLoop, is_sg (show mem [kRight] kRight = true by decide), if_pos rfl, h]
       rfl
      ·rw [Ps.take, if_neg hm] at h; cases h
/-! ### ( ) around an expression -/
def BrkOk (L : List T) (m : Nd) : Prop := ∀ k r, En r → (∃ t u, r = t :: u ∧ Stop t) → (L ++ r).length ≤ k + 1 → expr (run k) (L ++ r) = .ok m r
theorem stop_off {t : T} {u : List T} (h : Stop t) : Stp (t :: u) := stp_of (by
 show mem offs (Ps.srt t) = false
 rcases h with e | e | e <;> rw [e] <;> decide)
theorem brk_base {L : List T} {m : Nd} {K : Nat} {e : T} (he : e.kind = 0) (hk : (L ++ cl e).length ≤ K + 1) (h : expr (run K) (L ++ cl e) = .ok m (cl e)) : BrkOk L m := by
 intro k r hE hr hk2
 rcases Ps.expr_d (Ps.run_d K k) (en_cl he L) hk hk2 with ⟨a, n, hn, hE2, hfa, hj⟩ | ⟨i, _, hb, _⟩
 ·rw [h] at hfa
  injection hfa with e1 e2
  subst e1
  have hn : n = L.length := by
   have := congrArg List.length e2
   rw [List.length_drop] at this
   simp at this
   omega
  subst hn
  have e3 : (L ++ r).drop L.length = r := by simp
  rw [e3, ← e2] at hj
  refine hj (aln_left L _ _) ?_
  obtain ⟨t, u, rfl, ht⟩ := hr
  exact .inr ⟨.inr (.inl rfl), ht⟩
 ·rw [h] at hb; cases hb
theorem brk_more {L : List T} {m : Nd} (h : BrkOk L m) : BrkOk (sgn kOpen :: (L ++ [sgn kShut])) m := by
 intro k r hE hr hk
 have e1 : sgn kOpen :: (L ++ [sgn kShut]) ++ r = sgn kOpen :: (L ++ sgn kShut :: r) := by simp
 rw [e1] at hk ⊢
 have hp := hE.pos
 obtain ⟨k, rfl⟩ : ∃ q, k = q + 1 := ⟨k - 1, by simp at hk; omega⟩
 have hx : expr (run k) (L ++ sgn kShut :: r) = .ok m (sgn kShut :: r) := h k _ (hE.cons _) ⟨_, _, rfl, .inl rfl⟩ (by simp at hk ⊢; omega)
 have hkr : r.length ≤ k + 1 + 1 := by simp at hk; omega
 obtain ⟨hS, hq⟩ : Stp r := by
  obtain ⟨t, u, rfl, ht⟩ := hr
  exact stop_off ht
 have hpr : Ps.prim (run (k + 1)) (sgn kOpen :: (L ++ sgn kShut :: r)) = .ok m r := by
  show Ps.wBrackets (run (k + 1)) (sgn kOpen) (L ++ sgn kShut :: r) = _
  unfold Ps.wBrackets
  rw [Ps.is_off (Ps.expr_first hx) (by decide), if_neg (by decide)]
  show (expr (run k) (L ++ sgn kShut :: r)).bind _ = _
  rw [hx, O.bind_ok, is_sg (show mem [kColon] kShut = false by decide), if_neg (by decide), Ps.take_yes (by decide), O.bind_ok]
 have hpo := post_of_prim hpr hE hkr (Nat.le_refl _)
 rw [loop_no hS.1] at hpo
 have hop := op_of_un (j := 0) (un_of_post hpo) (by omega) hE (hS.up (by omega)) hkr (Nat.le_refl _)
 rw [Ps.lvl_no (hS.2.2 0 (Nat.le_refl _))] at hop
 unfold Ps.expr
 rw [hop, O.bind_ok, hq, if_neg (by decide)]
def brkN (L : List T) : Nat → List T
 | 0 => L
 | n + 1 => sgn kOpen :: (brkN L n ++ [sgn kShut])
theorem brk_all {L : List T} {m : Nd} (h : BrkOk L m) : ∀ n, BrkOk (brkN L n) m
 | 0 => h
 | n + 1 => brk_more (brk_all h n)
/-! ### A main of what is set to x -/
abbrev bX : ByteArray := ⟨#[120]⟩
def mainL (A : List T) : List T := key ⟨#[109, 97, 105, 110]⟩ :: sgn kLeft :: nam bX :: sgn kEq :: A
theorem oper_x {k : Nat} {R : List T} (hE : En R) (hk : (nam bX :: sgn kEq :: R).length ≤ k + 1) : oper (run k) 0 (nam bX :: sgn kEq :: R) = .ok (nd 14 bX e0 0 []) (sgn kEq :: R) := by
 have hF : Fin 1 (sgn kEq :: R) := fin_of (l := sgn kEq :: R) (show mem (kDot :: kOpen :: ops) kEq = false by decide)
 have hpr : Ps.prim (run k) (nam bX :: sgn kEq :: R) = .ok (nd 14 bX e0 0 []) (sgn kEq :: R) := rfl
 have hkr : (sgn kEq :: R).length ≤ k + 1 := by simp at hk ⊢; omega
 have hpo := post_of_prim hpr (hE.cons _) hkr (Nat.le_refl _)
 rw [loop_no hF.1] at hpo
 have hop := op_of_un (j := 0) (un_of_post hpo) (by omega) (hE.cons _) hF hkr (Nat.le_refl _)
 rw [Ps.lvl_no (is_sg (show mem (levels 0) kEq = false by decide))] at hop
 exact hop
/-- What is set to x is an expression, if it is told so. -/
theorem expr_x {k : Nat} {R : List T} (hE : En R) (hk : (nam bX :: sgn kEq :: R).length ≤ k + 1) : expr (run k) (nam bX :: sgn kEq :: R) = (run k .expr R).bind fun m r => .ok (nd 16 bX e0 0 [m]) r := by
 unfold Ps.expr
 rw [oper_x hE hk, O.bind_ok, is_sg (show mem [kEq] kEq = true by decide), if_pos rfl, if_neg (show ¬ Ps.setK (nd 14 bX e0 0 []).kind = 0 from (show ¬ Ps.setK 14 = 0 by decide))]
 rfl
theorem entry_x {k : Nat} {R : List T} (hE : En R) (hk : (nam bX :: sgn kEq :: R).length ≤ k + 1) : Ps.entry (run (k + 1)) (nam bX :: sgn kEq :: R) = (run k .expr R).bind fun m r => .ok (nd 16 bX e0 0 [m]) r := by
 unfold Ps.entry
 rw [is_nm (show mem [⟨#[108, 101, 116]⟩] aName = false by decide), if_neg (by decide)]
 exact expr_x hE hk
/-- A main is what its block is. -/
theorem whole_main {A : List T} {e : T} (he : e.kind = 0) : Ps.whole (mainL A ++ cl e) = (Ps.blockLoop (run ((A ++ cl e).length + 3)) ((A ++ cl e).length + 3) [] (nam bX :: sgn kEq :: A ++ cl e)).bind fun b r => (Ps.take [Ps.theEnd] r).bind fun _ _ => .ok (nd 1 e0 e0 0 [b]) [] := by
 have hl : (mainL A ++ cl e).length = (A ++ cl e).length + 4 := by simp [mainL]
 unfold Ps.whole Ps.program
 rw [hl]
 have e1 : Ps.many ⟨#[99, 108, 97, 115, 115]⟩ (Ps.class1 (run ((A ++ cl e).length + 4))) ((A ++ cl e).length + 4) [] (mainL A ++ cl e) = .ok [] (mainL A ++ cl e) := by
  rw [Ps.many]
  show (if is [⟨#[99, 108, 97, 115, 115]⟩] (key ⟨#[109, 97, 105, 110]⟩ :: _) then _ else _) = _
  rw [is_ky (show mem [⟨#[99, 108, 97, 115, 115]⟩] ⟨#[109, 97, 105, 110]⟩ = false by decide), if_neg (by decide)]
 rw [e1, O.bind_ok]
 have e2 : Ps.take [⟨#[109, 97, 105, 110]⟩] (mainL A ++ cl e) = .ok (key ⟨#[109, 97, 105, 110]⟩) (sgn kLeft :: nam bX :: sgn kEq :: A ++ cl e) := Ps.take_yes (by decide)
 rw [e2, O.bind_ok]
 show (O.bind (O.bind (Ps.block (run ((A ++ cl e).length + 3)) (sgn kLeft :: nam bX :: sgn kEq :: A ++ cl e)) _) _) = _
 unfold Ps.block
 have e3 : Ps.take [kLeft] (sgn kLeft :: nam bX :: sgn kEq :: A ++ cl e) = .ok (sgn kLeft) (nam bX :: sgn kEq :: A ++ cl e) := Ps.take_yes (by decide)
 rw [e3, O.bind_ok]
 have hl2 : (nam bX :: sgn kEq :: A ++ cl e).length + 1 = (A ++ cl e).length + 3 := by simp
 rw [hl2]
 cases Ps.blockLoop (run ((A ++ cl e).length + 3)) ((A ++ cl e).length + 3) [] (nam bX :: sgn kEq :: A ++ cl e) with
 | bad p => rfl
 | ok b r => rfl
theorem whole_mainS {A : List T} {e : T} (he : e.kind = 0) : Ps.whole (mainL A ++ cs e) = (Ps.blockLoop (run ((A ++ cs e).length + 3)) ((A ++ cs e).length + 3) [] (nam bX :: sgn kEq :: A ++ cs e)).bind fun b r => (Ps.take [Ps.theEnd] r).bind fun _ _ => .ok (nd 1 e0 e0 0 [b]) [] := by
 have h := whole_main (A := A ++ [sgn kSemi]) he
 have e1 : mainL (A ++ [sgn kSemi]) ++ cl e = mainL A ++ cs e := by simp [mainL]
 have e2 : A ++ [sgn kSemi] ++ cl e = A ++ cs e := by simp
 have e3 : nam bX :: sgn kEq :: (A ++ [sgn kSemi]) ++ cl e = nam bX :: sgn kEq :: A ++ cs e := by simp
 rw [e1, e2, e3] at h
 exact h
theorem loop_rest {F : Ps.Fam} {K k : Nat} {acc : List Nd} {l r : List T} {b : Nd} (hE : En l) (hk : l.length ≤ K) (h2 : l.length ≤ k) (h : Ps.blockLoop (run K) k acc l = .ok b r) : ∃ n, r = l.drop n ∧ En r := by
 rcases Ps.blockLoop_d (Ps.run_d K K) acc hE h2 h2 hk hk with ⟨a, n, _, hE2, h1, _⟩ | ⟨i, _, h1, _⟩
 ·rw [h] at h1
  injection h1 with _ h1
  exact ⟨n, h1, by rw [h1]; exact hE2⟩
 ·rw [h] at h1; cases h1
/-- The theorem of brackets and of a last ;, on tokens. -/
theorem brk_main {L : List T} {n : Int} {x : Nd} (hL : ∀ t ∈ L, Ps.srt t ≠ Ps.theEnd) (h : Ps.whole (mainL L ++ cl (Ps.theEndT n)) = .ok x []) :
  x.kids.length = 1 ∧ ((lastSemi L ∧ ∃ p, Ps.whole (mainL L ++ cs (Ps.theEndT n)) = .bad p) ∨
  (Ps.whole (mainL L ++ cs (Ps.theEndT n)) = .ok x [] ∧ ((∃ b, x.kids = [b] ∧ b.kids.length = 1) → ∀ q, Ps.whole (mainL (brkN L q) ++ cl (Ps.theEndT n)) = .ok x []))) := by
 obtain ⟨e, hee⟩ : ∃ e, Ps.theEndT n = e := ⟨_, rfl⟩
 have he : e.kind = 0 := by rw [← hee]; rfl
 have hse : Ps.srt e = Ps.theEnd := Ps.srt_fin he
 rw [hee] at h ⊢
 rw [whole_main he] at h
 obtain ⟨M, hM⟩ : ∃ M, nam bX :: sgn kEq :: L = M := ⟨_, rfl⟩
 rw [hM] at h
 have hMn : ∀ t ∈ M, Ps.srt t ≠ Ps.theEnd := by
  intro t ht
  rw [← hM] at ht
  rcases List.mem_cons.1 ht with rfl | ht
  ·rw [srt_n]; decide
  ·rcases List.mem_cons.1 ht with rfl | ht
   ·rw [srt_s]; decide
   ·exact hL t ht
 have hlm : (M ++ cl e).length = (L ++ cl e).length + 2 := by rw [← hM]; simp
 have hlm2 : (M ++ cs e).length = (L ++ cs e).length + 2 := by rw [← hM]; simp
 cases hb : Ps.blockLoop (run ((L ++ cl e).length + 3)) ((L ++ cl e).length + 3) [] (M ++ cl e) with
 | bad p => rw [hb] at h; cases h
 | ok b r =>
  rw [hb, O.bind_ok] at h
  obtain ⟨nn, hr, hEr⟩ := loop_rest (F := run 0) (en_cl he M) (by omega) (by omega) hb
  cases ht : Ps.take [Ps.theEnd] r with
  | bad p => rw [ht] at h; cases h
  | ok u s =>
   rw [ht, O.bind_ok] at h
   injection h with h _
   -- what is left is the end alone
   have hre : r = [e] := by
    cases r with
    | nil => cases ht
    | cons v r2 =>
     have hv : Ps.srt v = Ps.theEnd := by
      rw [Ps.take] at ht
      split at ht
      ·rename_i hm
       rw [Ps.mem_cons] at hm
       simpa [Ps.mem, eq_comm] using hm
      ·cases ht
     have hlen := congrArg List.length hr
     rw [List.length_drop] at hlen
     simp at hlen
     rcases Nat.lt_or_ge M.length nn with hc | hc
     ·have : nn = M.length + 1 := by omega
      rw [hr, this]
      simp [List.drop_append]
     ·exfalso
      rcases Nat.lt_or_ge nn M.length with hc2 | hc2
      ·rw [List.drop_append_of_le_length hc] at hr
       cases hd : M.drop nn with
       | nil => rw [List.drop_eq_nil_iff] at hd; omega
       | cons y ys =>
        rw [hd] at hr
        injection hr with h1 _
        refine hMn y ?_ (by rw [← h1]; exact hv)
        exact List.mem_of_mem_drop (by rw [hd]; simp)
      ·obtain rfl : nn = M.length := by omega
       rw [List.drop_append_of_le_length (Nat.le_refl _), List.drop_length] at hr
       injection hr with h1 _
       rw [h1] at hv
       exact absurd (show kRight = Ps.theEnd from hv) (by decide)
   rw [hre] at hb
   have hxk : x.kids = [b] := by rw [← h]; rfl
   refine ⟨by rw [hxk]; rfl, ?_⟩
   rcases loop_semi (K' := (L ++ cs e).length + 3) he _ [] M ((L ++ cs e).length + 3) b (by omega) (by omega) (by omega) hMn hb with ⟨h1, p, h2⟩ | ⟨h1, h2⟩
   ·left
    refine ⟨?_, p, ?_⟩
    ·rcases h1 with h1 | ⟨M0, t, h1, h3⟩
     ·rw [← hM] at h1; cases h1
     ·rw [← hM] at h1
      cases M0 with
      | nil => simp at h1
      | cons v M1 =>
       injection h1 with _ h1
       cases M1 with
       | nil =>
        injection h1 with h1 _
        rw [← h1] at h3
        exact absurd (show kEq = kSemi from h3) (by decide)
       | cons v2 M2 =>
        injection h1 with _ h1
        exact ⟨M2, t, h1, h3⟩
    ·rw [whole_mainS he, hM, h2]; rfl
   ·right
    refine ⟨?_, ?_⟩
    ·rw [whole_mainS he, hM, h1, O.bind_ok, Ps.take, if_pos (by rw [hse]; decide), O.bind_ok, h]
    ·rintro ⟨b', hb', hk1⟩ q
     rw [hxk] at hb'
     injection hb' with hb' _
     subst hb'
     obtain ⟨y, hy, hby⟩ := h2 hk1
     rw [← hM] at hy
     have hy' : Ps.entry (run ((L ++ cl e).length + 2 + 1)) (nam bX :: sgn kEq :: (L ++ cl e)) = .ok y (cl e) := hy
     rw [entry_x (en_cl he L) (by simp)] at hy'
     cases hm : run ((L ++ cl e).length + 2) .expr (L ++ cl e) with
     | bad p => rw [hm] at hy'; cases hy'
     | ok m r2 =>
      rw [hm, O.bind_ok] at hy'
      injection hy' with hy1 hy2
      subst hy2
      have hB : BrkOk L m := brk_base (K := (L ++ cl e).length + 1) he (by omega) hm
      have hBq := brk_all hB q
      rw [whole_main he]
      obtain ⟨A, hA⟩ : ∃ A, brkN L q = A := ⟨_, rfl⟩
      rw [hA] at hBq ⊢
      have e1 : Ps.entry (run ((A ++ cl e).length + 2 + 1)) (nam bX :: sgn kEq :: (A ++ cl e)) = .ok y (cl e) := by
       rw [entry_x (en_cl he A) (by simp)]
       show ((expr (run ((A ++ cl e).length + 1)) (A ++ cl e)).bind fun m r => O.ok (nd 16 bX e0 0 [m]) r) = _
       rw [hBq _ (cl e) (en_cl he []) ⟨_, _, rfl, .inr (.inl rfl)⟩ (by omega), O.bind_ok, hy1]
      have e2 : Ps.blockLoop (run ((A ++ cl e).length + 3)) ((A ++ cl e).length + 3) [] (nam bX :: sgn kEq :: A ++ cl e) = .ok b [e] := by
       show Ps.blockLoop (run ((A ++ cl e).length + 3)) ((A ++ cl e).length + 2 + 1) [] (nam bX :: sgn kEq :: (A ++ cl e)) = _
       rw [Ps.blockLoop, is_nm (show mem [kRight] aName = false by decide), if_neg (by decide)]
       show (O.bind (Ps.entry (run ((A ++ cl e).length + 2 + 1)) (nam bX :: sgn kEq :: (A ++ cl e))) _) = _
       rw [e1, O.bind_ok, is_sg (show mem [kSemi] kRight = false by decide), if_neg (by decide), Ps.take_yes (by decide), O.bind_ok, hby]
      rw [e2, O.bind_ok, Ps.take, if_pos (by rw [hse]; decide), O.bind_ok, h]
end Pr
namespace Pr
open Ps (O En AlN mem kOpen kShut kEq kSemi kLeft kRight)
abbrev hA : ByteArray := ⟨#[109, 97, 105, 110, 32, 123, 32, 120, 32, 61, 32]⟩
abbrev hB : ByteArray := ⟨#[32, 125]⟩
abbrev hC : ByteArray := ⟨#[32, 59, 32, 125]⟩
theorem aln_symm : ∀ {n : Nat} {l l' : List T}, AlN n l l' → AlN n l' l
 | 0, _, _, _ => trivial
 | n + 1, t :: r, t' :: r', h => ⟨⟨h.1.1.symm, h.1.2.1.symm, h.1.2.2.symm⟩, aln_symm h.2⟩
 | n + 1, [], _, h => h.elim
 | n + 1, _ :: _, [], h => h.elim
theorem aln_likeL : ∀ {L M : List T}, Lx.likeL L M → L.length = M.length ∧ AlN M.length M L
 | [], [], _ => ⟨rfl, trivial⟩
 | t :: r, x :: s, h => by
  obtain ⟨h1, h2⟩ := aln_likeL h.2
  exact ⟨by simp [h1], ⟨h.1.1.symm, h.1.2.1.symm, h.1.2.2.symm⟩, h2⟩
 | [], _ :: _, h => h.elim
 | _ :: _, [], h => h.elim
/-- A source of these tokens is what they are. -/
theorem src_ok {l : List UInt8} {L M : List T} {n : Int} {x : Nd} (h : Lx.lex l = (L, 0, 0)) (hlen : M.length = L.length) (hA : AlN M.length M L) (hw : Ps.whole (M ++ [Ps.theEndT n]) = .ok x []) (hc : (checkE x).1 = 0) : parseP l = .tree x :=
 par_make h (whole_like hlen hA hw) hc
theorem src_bad {l : List UInt8} {L M : List T} {n p : Int} (h : Lx.lex l = (L, 0, 0)) (hlen : M.length = L.length) (hA : AlN M.length M L) (hw : Ps.whole (M ++ [Ps.theEndT n]) = .bad p) : ∃ q, parseP l = .fault 5 q := by
 have hA' := AlN.app M L _ _ 1 hlen hA (aln_end n (l.length : Int))
 rcases Ps.whole_d (l' := L ++ [Ps.theEndT (l.length : Int)]) (show En (M ++ [Ps.theEndT n]) from ⟨_, _, rfl, rfl⟩) with ⟨y, h1, _⟩ | ⟨i, hi, h1, h2⟩
 ·rw [hw] at h1; cases h1
 ·exact ⟨_, par_badW h (h2 (AlN.le hA' (by rw [List.length_append, List.length_singleton] at hi; omega)))⟩
theorem isTok_hdr : ∀ t ∈ mainL [], Lx.isTok t = true := by decide +kernel
theorem isTok_sg3 : Lx.isTok (sgn kRight) = true ∧ Lx.isTok (sgn kSemi) = true ∧ Lx.isTok (sgn kOpen) = true ∧ Lx.isTok (sgn kShut) = true := by decide +kernel
theorem joinB_cons (x : T) (r : List T) : Lx.joinB (x :: r) = (Lx.spl x).data.toList ++ r.flatMap fun y => 32 :: (Lx.spl y).data.toList := rfl
theorem join_main {L : List T} (hne : L ≠ []) (E : List T) : Lx.joinB (mainL L ++ E) = hA.data.toList ++ Lx.joinB L ++ E.flatMap fun y => 32 :: (Lx.spl y).data.toList := by
 cases L with
 | nil => exact absurd rfl hne
 | cons x r =>
  rw [joinB_cons]
  show Lx.joinB (key ⟨#[109, 97, 105, 110]⟩ :: ([sgn kLeft, nam bX, sgn kEq] ++ x :: r ++ E)) = _
  rw [joinB_cons, List.flatMap_append, List.flatMap_append, List.flatMap_cons]
  have e0 : (Lx.spl (key ⟨#[109, 97, 105, 110]⟩)).data.toList ++ (([sgn kLeft, nam bX, sgn kEq] : List T).flatMap fun y => 32 :: (Lx.spl y).data.toList) ++ [32] = hA.data.toList := by kernel_rfl
  rw [← e0]
  simp [List.append_assoc]
theorem srt_semi {t : T} (h : Ps.srt t = kSemi) : t.text = kSemi := by
 unfold Ps.srt at h
 split at h
 ·exact h
 ·split at h
  ·exact h
  ·exfalso
   unfold Ps.srtK at h
   repeat' split at h
   all_goals exact absurd h (by decide)
theorem the_end_no (n : Int) : Lx.isTok ⟨3, Ps.theEnd, n, 0⟩ = false ∧ Lx.isTok ⟨7, Ps.theEnd, n, 0⟩ = false := by
 have h : (Lx.lex Ps.theEnd.data.toList).1.length = 2 := by decide +kernel
 constructor
 ·show Lx.oneT (Lx.lex Ps.theEnd.data.toList).1 _ = false
  exact Lx.oneT_len (by rw [h]; decide)
 ·show Lx.oneT (Lx.lex Ps.theEnd.data.toList).1 _ = false
  exact Lx.oneT_len (by rw [h]; decide)
theorem tok_noEnd {t : T} (h : Lx.isTok t = true) : Ps.srt t ≠ Ps.theEnd := by
 intro e
 obtain ⟨⟨h1, h2⟩, _⟩ := Lx.isTok_small h
 obtain ⟨k, x, n, p⟩ := t
 unfold Ps.srt at e
 by_cases h3 : k = 3
 ·subst h3
  rw [if_pos rfl] at e
  have e : x = Ps.theEnd := e
  subst e
  rw [Lx.isTok_at 3 _ n p 0, (the_end_no n).1] at h
  cases h
 ·rw [if_neg h3] at e
  by_cases h7 : k = 7
  ·subst h7
   rw [if_pos rfl] at e
   have e : x = Ps.theEnd := e
   subst e
   rw [Lx.isTok_at 7 _ n p 0, (the_end_no n).2] at h
   cases h
  ·rw [if_neg h7] at e
   have e : Ps.srtK k = Ps.theEnd := e
   have h1 : 1 ≤ k := h1
   unfold Ps.srtK at e
   rw [if_neg (by omega)] at e
   repeat' split at e
   all_goals exact absurd e (by decide)
/-! ### The source with ( ) -/
open Lx (Ck ckOk ckT ckB isP isQ)
def ckL : List T → List Ck
 | [] => []
 | x :: r => (false, x) :: r.map fun y => (true, y)
theorem ckT_L (L : List T) : ckT (ckL L) = Lx.joinB L := by
 cases L with
 | nil => rfl
 | cons x r =>
  rw [joinB_cons]
  show ckT ((false, x) :: r.map fun y => (true, y)) = _
  unfold ckT
  rw [List.flatMap_cons, List.flatMap_map]
  rfl
theorem ckT_app (a b : List Ck) : ckT (a ++ b) = ckT a ++ ckT b := by unfold ckT; rw [List.flatMap_append]
theorem ckOk_app : ∀ (a : List Ck) (d : Ck) (r : List Ck), ckOk a → ckOk (d :: r) → (∀ c, a.getLast? = some c → d.1 = true ∨ isP c.2 ∨ isQ d.2) → ckOk (a ++ d :: r)
 | [], d, r, _, h, _ => h
 | [c], d, r, h1, h, h2 => ⟨h1, h2 c rfl, h⟩
 | c :: c2 :: a, d, r, h1, h, h2 => ⟨h1.1, h1.2.1, ckOk_app (c2 :: a) d r h1.2.2 h (fun x hx => h2 x (by rw [List.getLast?_cons_cons]; exact hx))⟩
theorem ckOk_map {r : List T} (h : ∀ t ∈ r, Lx.isTok t = true) : ckOk (r.map fun y => (true, y)) := by
 induction r with
 | nil => trivial
 | cons x r ih =>
  have h1 := h x (by simp)
  have h2 := ih (fun t ht => h t (List.mem_cons_of_mem _ ht))
  cases r with
  | nil => exact h1
  | cons y r => exact ⟨h1, .inl rfl, h2⟩
theorem ckOk_L {L : List T} (h : ∀ t ∈ L, Lx.isTok t = true) : ckOk (ckL L) := by
 cases L with
 | nil => trivial
 | cons x r =>
  have h1 := h x (by simp)
  have h2 := ckOk_map (r := r) (fun t ht => h t (List.mem_cons_of_mem _ ht))
  cases r with
  | nil => exact h1
  | cons y r => exact ⟨h1, .inl rfl, h2⟩
theorem isP_open : isP (sgn kOpen) := ⟨rfl, rfl, rfl, rfl⟩
theorem isQ_shut : isQ (sgn kShut) := rfl
theorem ckOk_opens : ∀ n, ckOk (List.replicate n ((false, sgn kOpen) : Ck))
 | 0 => trivial
 | 1 => isTok_sg3.2.2.1
 | n + 2 => ⟨isTok_sg3.2.2.1, .inr (.inl isP_open), ckOk_opens (n + 1)⟩
theorem ckOk_shuts : ∀ n, ckOk (List.replicate n ((false, sgn kShut) : Ck))
 | 0 => trivial
 | 1 => isTok_sg3.2.2.2
 | n + 2 => ⟨isTok_sg3.2.2.2, .inr (.inr isQ_shut), ckOk_shuts (n + 1)⟩
theorem brkN_eq (L : List T) : ∀ q, brkN L q = List.replicate q (sgn kOpen) ++ L ++ List.replicate q (sgn kShut)
 | 0 => by simp [brkN]
 | q + 1 => by
  rw [brkN, brkN_eq L q, List.replicate_succ, List.replicate_succ']
  simp
def ck3 (q : Nat) (L : List T) : List Ck := [(false, key ⟨#[109, 97, 105, 110]⟩), (true, sgn kLeft), (true, nam bX), (true, sgn kEq), (true, sgn kOpen)] ++ (List.replicate q (false, sgn kOpen) ++ (ckL L ++ (List.replicate (q + 1) (false, sgn kShut) ++ [(true, sgn kRight)])))
theorem last_rep {α : Type} {a b : α} {n : Nat} (h : (List.replicate n a).getLast? = some b) : b = a := List.eq_of_mem_replicate (List.mem_of_getLast? h)
theorem ck3_ok {L : List T} (q : Nat) (hne : L ≠ []) (h : ∀ t ∈ L, Lx.isTok t = true) : ckOk (ck3 q L) := by
 have h4 : ckOk (List.replicate (q + 1) ((false, sgn kShut) : Ck) ++ [(true, sgn kRight)]) := ckOk_app _ _ _ (ckOk_shuts _) isTok_sg3.1 (fun c hc => .inl rfl)
 obtain ⟨x, r, rfl⟩ : ∃ x r, L = x :: r := by
  cases L with
  | nil => exact absurd rfl hne
  | cons x r => exact ⟨x, r, rfl⟩
 have h3 : ckOk (ckL (x :: r) ++ (List.replicate (q + 1) ((false, sgn kShut) : Ck) ++ [(true, sgn kRight)])) := ckOk_app _ _ _ (ckOk_L h) h4 (fun c hc => .inr (.inr isQ_shut))
 have h2 : ckOk (List.replicate q ((false, sgn kOpen) : Ck) ++ (ckL (x :: r) ++ (List.replicate (q + 1) ((false, sgn kShut) : Ck) ++ [(true, sgn kRight)]))) :=
  ckOk_app _ _ _ (ckOk_opens q) h3 (fun c hc => by rw [last_rep hc]; exact .inr (.inl isP_open))
 have h0 : ckOk ([(false, key ⟨#[109, 97, 105, 110]⟩), (true, sgn kLeft), (true, nam bX), (true, sgn kEq), (true, sgn kOpen)] : List Ck) :=
  ⟨isTok_hdr _ (by simp [mainL]), .inl rfl, isTok_hdr _ (by simp [mainL]), .inl rfl, isTok_hdr _ (by simp [mainL]), .inl rfl, isTok_hdr _ (by simp [mainL]), .inl rfl, isTok_sg3.2.2.1⟩
 unfold ck3
 cases q with
 | zero => exact ckOk_app _ _ _ h0 h2 (fun c hc => by injection hc with hc; subst hc; exact .inr (.inl isP_open))
 | succ q => exact ckOk_app _ _ _ h0 h2 (fun c hc => by injection hc with hc; subst hc; exact .inr (.inl isP_open))
theorem ck3_toks (q : Nat) (L : List T) : (ck3 q L).map (·.2) = mainL (brkN L (q + 1)) ++ [sgn kRight] := by
 have e1 : (ckL L).map (·.2) = L := by
  cases L with
  | nil => rfl
  | cons x r =>
   show x :: (r.map fun y => ((true, y) : Ck)).map (·.2) = _
   rw [List.map_map, show ((fun c : Ck => c.2) ∘ fun y => ((true, y) : Ck)) = id from rfl, List.map_id]
 rw [brkN_eq]
 unfold ck3 mainL
 simp only [List.map_append, List.map_cons, List.map_nil, List.map_replicate, e1]
 rw [List.replicate_succ]
 simp
 rw [List.replicate_succ]
 rfl
theorem ck_rep (c : Ck) (b : UInt8) (h : ckB c = [b]) : ∀ n, ckT (List.replicate n c) = List.replicate n b
 | 0 => rfl
 | n + 1 => by
  rw [List.replicate_succ, List.replicate_succ]
  show (c :: List.replicate n c).flatMap ckB = _
  rw [List.flatMap_cons, h]
  show [b] ++ ckT (List.replicate n c) = _
  rw [ck_rep c b h n]; rfl
theorem ck3_text (q : Nat) (L : List T) : ckT (ck3 q L) = hA.data.toList ++ List.replicate (q + 1) 40 ++ Lx.joinB L ++ List.replicate (q + 1) 41 ++ hB.data.toList := by
 unfold ck3
 rw [ckT_app, ckT_app, ckT_app, ckT_app, ckT_L, ck_rep _ 40 rfl, ck_rep _ 41 rfl]
 have e0 : ckT ([(false, key ⟨#[109, 97, 105, 110]⟩), (true, sgn kLeft), (true, nam bX), (true, sgn kEq), (true, sgn kOpen)] : List Ck) = hA.data.toList ++ [40] := by kernel_rfl
 have e1 : ckT ([(true, sgn kRight)] : List Ck) = hB.data.toList := by kernel_rfl
 rw [e0, e1, List.replicate_succ]
 simp
 rw [List.replicate_succ]
 rfl
/-- What ParserBrackets asks. -/
theorem brk_src {L : List T} (hx : ∀ t ∈ L, Lx.isTok t = true) (hl : (Lx.joinB L).length ≤ 5000) {x : Nd} (h : parseP (hA.data.toList ++ Lx.joinB L ++ hB.data.toList) = .tree x) :
  x.kids.length = 1 ∧ (((∃ L0 t, L = L0 ++ [t] ∧ t.text = kSemi) ∧ ∃ q, parseP (hA.data.toList ++ Lx.joinB L ++ hC.data.toList) = .fault 5 q) ∨
  (parseP (hA.data.toList ++ Lx.joinB L ++ hC.data.toList) = .tree x ∧ ((∃ b, x.kids = [b] ∧ b.kids.length = 1) → ∀ q, q ≤ 100 → parseP (hA.data.toList ++ List.replicate (q + 1) 40 ++ Lx.joinB L ++ List.replicate (q + 1) 41 ++ hB.data.toList) = .tree x))) := by
 have hlA : hA.data.toList.length = 11 := rfl
 have hlB : hB.data.toList.length = 2 := rfl
 have hlC : hC.data.toList.length = 4 := rfl
 have hne : L ≠ [] := by
  rintro rfl
  have e : parseP (hA.data.toList ++ Lx.joinB [] ++ hB.data.toList) = .fault 5 12 := by kernel_rfl
  rw [e] at h
  cases h
 have e1 : Lx.joinB (mainL L ++ [sgn kRight]) = hA.data.toList ++ Lx.joinB L ++ hB.data.toList := by rw [join_main hne]; rfl
 have e2 : Lx.joinB (mainL L ++ [sgn kSemi, sgn kRight]) = hA.data.toList ++ Lx.joinB L ++ hC.data.toList := by rw [join_main hne]; rfl
 have hm : ∀ t ∈ mainL L, Lx.isTok t = true := by
  intro t ht
  rcases List.mem_append.1 (show t ∈ mainL [] ++ L from ht) with ht | ht
  ·exact isTok_hdr t ht
  ·exact hx t ht
 have ht1 : ∀ t ∈ mainL L ++ [sgn kRight], Lx.isTok t = true := by
  intro t ht
  rcases List.mem_append.1 ht with ht | ht
  ·exact hm t ht
  ·rw [List.mem_singleton] at ht; rw [ht]; exact isTok_sg3.1
 have ht2 : ∀ t ∈ mainL L ++ [sgn kSemi, sgn kRight], Lx.isTok t = true := by
  intro t ht
  rcases List.mem_append.1 ht with ht | ht
  ·exact hm t ht
  ·rcases List.mem_cons.1 ht with rfl | ht
   ·exact isTok_sg3.2.1
   ·rw [List.mem_singleton] at ht; rw [ht]; exact isTok_sg3.1
 have hj1 := Lx.joined_lex ht1 (by rw [e1]; simp only [List.length_append, List.length_cons, List.length_nil]; omega)
 have hj2 := Lx.joined_lex ht2 (by rw [e2]; simp only [List.length_append, List.length_cons, List.length_nil]; omega)
 rw [e1] at hj1
 rw [e2] at hj2
 obtain ⟨_, h1, hc⟩ := par_tree h
 rw [hj1] at h1
 have hp1 := Lx.placed_len 0 (mainL L ++ [sgn kRight])
 have h1' : Ps.whole (mainL L ++ [sgn kRight] ++ [Ps.theEndT 0]) = .ok x [] := whole_like hp1 (by rw [hp1]; exact aln_symm (aln_placed 0 _)) h1
 rw [List.append_assoc] at h1'
 obtain ⟨g1, g2⟩ := brk_main (fun t ht => tok_noEnd (hx t ht)) h1'
 refine ⟨g1, ?_⟩
 have hp2 := (Lx.placed_len 0 (mainL L ++ [sgn kSemi, sgn kRight])).symm
 rcases g2 with ⟨⟨L0, t, h3, h4⟩, p, h5⟩ | ⟨h3, h4⟩
 ·left
  refine ⟨⟨L0, t, h3, srt_semi h4⟩, ?_⟩
  exact src_bad hj2 hp2 (aln_placed 0 _) (by rw [List.append_assoc]; exact h5)
 ·right
  refine ⟨src_ok hj2 hp2 (aln_placed 0 _) (by rw [List.append_assoc]; exact h3) hc, fun hb q hq => ?_⟩
  obtain ⟨M, hM1, hM2⟩ := Lx.ck_lex (ck3_ok q hne hx) (by rw [ck3_text]; simp only [List.length_append, List.length_replicate, List.length_cons, List.length_nil]; omega)
  rw [ck3_text] at hM1
  rw [ck3_toks] at hM2
  obtain ⟨a1, a2⟩ := aln_likeL hM2
  exact src_ok hM1 a1.symm a2 (by rw [List.append_assoc]; exact h4 hb (q + 1)) hc
end Pr
end Go.Proofs.YtfkmnpgpfmkjaaaGreatDoor
