/- SameNode at two trees that are the same (as in Nsa): true. -/
import Derived.Test.YtfkmnpgpfmkjaaaGreatDoory29
import Derived.Test.YtfkmnpgpfmkjaaaGreatDoory31
set_option linter.unusedSimpArgs false
set_option linter.unusedVariables false
set_option maxRecDepth 100000
namespace Go.Proofs.YtfkmnpgpfmkjaaaGreatDoor
open Go.ChangeShapes Go.WideShapes Go.ChangeAt Go.RowKit Go.Shelf
attribute [local go_sem] Oper.semAt_some

set_option maxHeartbeats 8000000 in
theorem sameN_c (x : Nd) : ∀ (ad : Option Addr) (ck : Nat) (bd : Option Addr) (dk : Nat) (w : World), KidsAt w (.slice ad x.kids.length ck) x.kids → KidsAt w (.slice bd x.kids.length dk) x.kids →
    Calls Tryz.prog 17 #[ndV x (.slice ad x.kids.length ck), ndV x (.slice bd x.kids.length dk)] w fun e w' => e = .returned (.bool true) ∧ Kept w w' := by
  refine Nd.ind (P := fun x => ∀ (ad : Option Addr) (ck : Nat) (bd : Option Addr) (dk : Nat) (w : World), KidsAt w (.slice ad x.kids.length ck) x.kids → KidsAt w (.slice bd x.kids.length dk) x.kids →
    Calls Tryz.prog 17 #[ndV x (.slice ad x.kids.length ck), ndV x (.slice bd x.kids.length dk)] w fun e w' => e = .returned (.bool true) ∧ Kept w w') (fun x ih ad ck bd dk w hk hk2 => ?_) x
  obtain ⟨W1, hW1⟩ : ∃ W1, (w.alloc (.cells #[.int .i64 x.kind, .string x.text, .string x.typ, .string x.frm, .int .i64 x.n, .slice ad x.kids.length ck] 25)).alloc (.cells #[.int .i64 x.kind, .string x.text, .string x.typ, .string x.frm, .int .i64 x.n, .slice bd x.kids.length dk] 25) = W1 := ⟨_, rfl⟩
  have k1 : Kept w W1 := by rw [← hW1]; exact ((Kept.refl w).alloc _).alloc _
  have ha : Blk W1 w.heap.size 25 (ndC x (.slice ad x.kids.length ck)).toArray := by rw [← hW1]; exact (Blk.new _ _ _).alloc _
  have hb : Blk W1 (w.heap.size + 1) 25 (ndC x (.slice bd x.kids.length dk)).toArray := by rw [← hW1]; exact Blk.at (by simp)
  have hcap : x.kids.length ≤ maxLen := Row.len hk
  obtain ⟨_, _, e0, _, _, hat⟩ := KidsD.kept hk k1
  injection e0 with e1 e2 e3
  subst e1 e3
  clear e2
  obtain ⟨_, _, e0, _, _, hbt⟩ := KidsD.kept hk2 k1
  injection e0 with e1 e2 e3
  subst e1 e3
  clear e2
  have HAT := Lib.hid hat
  have HBT := Lib.hid hbt
  have HA := Lib.hid ha
  have HB := Lib.hid hb
  have HIH := Lib.hid ih
  have HW1 := Lib.hid hW1
  have HK1 := Lib.hid k1
  obtain ⟨l, hl⟩ : ∃ l, x.kids = l := ⟨_, rfl⟩
  rw [hl] at HAT HBT HA HB HIH HW1 hcap ⊢
  have a0 := HA.out.cell 0
  have a1 := HA.out.cell 1
  have a2 := HA.out.cell 2
  have a3 := HA.out.cell 3
  have a4 := HA.out.cell 4
  have a5 := HA.out.cell 5
  have b0 := HB.out.cell 0
  have b1 := HB.out.cell 1
  have b2 := HB.out.cell 2
  have b3 := HB.out.cell 3
  have b4 := HB.out.cell 4
  have b5 := HB.out.cell 5
  simp only [ndC, List.getElem?_toArray, List.getElem?_cons_zero, List.getElem?_cons_succ] at a0 a1 a2 a3 a4 a5 b0 b1 b2 b3 b4 b5
  clear hat hbt ha hb ih hW1 k1 hk hk2 hl
  unfold maxLen at hcap
  go_enter Tryz.func17, Tryz.ntmps17
  go_wp2_with (rw [HW1.out])
  clear a0 a1 a2 a3 a4 a5 b0 b1 b2 b3 b4 b5
  go_loopw [5] (fun i wr => ∃ k : Nat, i = .int .i64 k ∧ k ≤ l.length ∧ Kept W1 wr) (fun i wr => l.length - (intOf i).toNat)
  case atStart => exact ⟨0, rfl, Nat.zero_le _, Kept.refl _⟩
  case round =>
    obtain ⟨k, rfl, hkl, hkp⟩ := hrel
    have a5 := (HA.out.kept hkp).cell 5
    have b5 := (HB.out.kept hkp).cell 5
    simp only [ndC, List.getElem?_toArray, List.getElem?_cons_zero, List.getElem?_cons_succ] at a5 b5
    have HK := Lib.hid hkp
    by_cases hlt : k < l.length
    · have hltI : (k : Int) < (l.length : Int) := by omega
      have hx : l[k]? = some l[k] := List.getElem?_eq_getElem hlt
      generalize hy : l[k] = y at hx
      obtain ⟨b, o, rfl, hn⟩ := HAT.out k y hx
      obtain ⟨b', o', rfl, hn'⟩ := HBT.out k y hx
      obtain ⟨ya, yc, ⟨n0, n1, n2, n3, n4, n5⟩, _, hyk, _⟩ := (hn.kept hkp).cells
      obtain ⟨za, zc, ⟨m0, m1, m2, m3, m4, m5⟩, _, hzk, _⟩ := (hn'.kept hkp).cells
      have HC := Lib.hid (fun W (k2 : Kept wr W) => HIH.out y (List.mem_of_getElem? hx) ya yc za zc W (KidsD.kept hyk k2) (KidsD.kept hzk k2))
      clear hx hy hn hn' hyk hzk hkp
      have HH := Lib.hid (show ∀ W, Kept wr W → (fun W => W.cell? ⟨w.heap.size, 5, none⟩ = some (.slice (some ⟨b, o, none⟩) l.length ck) ∧ W.cell? ⟨w.heap.size + 1, 5, none⟩ = some (.slice (some ⟨b', o', none⟩) l.length dk) ∧
        W.cell? ⟨b, o + k * 6, none⟩ = some (.int .i64 y.kind) ∧ W.cell? ⟨b, o + k * 6 + 1, none⟩ = some (.string y.text) ∧ W.cell? ⟨b, o + k * 6 + 2, none⟩ = some (.string y.typ) ∧ W.cell? ⟨b, o + k * 6 + 3, none⟩ = some (.string y.frm) ∧ W.cell? ⟨b, o + k * 6 + 4, none⟩ = some (.int .i64 y.n) ∧ W.cell? ⟨b, o + k * 6 + 5, none⟩ = some (.slice ya y.kids.length yc) ∧
        W.cell? ⟨b', o' + k * 6, none⟩ = some (.int .i64 y.kind) ∧ W.cell? ⟨b', o' + k * 6 + 1, none⟩ = some (.string y.text) ∧ W.cell? ⟨b', o' + k * 6 + 2, none⟩ = some (.string y.typ) ∧ W.cell? ⟨b', o' + k * 6 + 3, none⟩ = some (.string y.frm) ∧ W.cell? ⟨b', o' + k * 6 + 4, none⟩ = some (.int .i64 y.n) ∧ W.cell? ⟨b', o' + k * 6 + 5, none⟩ = some (.slice za y.kids.length zc) ∧ Kept wr W) W
        from fun W k => ⟨k.cell a5, k.cell b5, k.cell n0, k.cell n1, k.cell n2, k.cell n3, k.cell n4, k.cell n5, k.cell m0, k.cell m1, k.cell m2, k.cell m3, k.cell m4, k.cell m5, k⟩)
      have hz : (k : Int).toNat = k := by simp
      go_wp2_with fail
      refine wp_region_held_drew (S := fun W => W.cell? ⟨w.heap.size, 5, none⟩ = some (.slice (some ⟨b, o, none⟩) l.length ck) ∧ W.cell? ⟨w.heap.size + 1, 5, none⟩ = some (.slice (some ⟨b', o', none⟩) l.length dk) ∧
        W.cell? ⟨b, o + k * 6, none⟩ = some (.int .i64 y.kind) ∧ W.cell? ⟨b, o + k * 6 + 1, none⟩ = some (.string y.text) ∧ W.cell? ⟨b, o + k * 6 + 2, none⟩ = some (.string y.typ) ∧ W.cell? ⟨b, o + k * 6 + 3, none⟩ = some (.string y.frm) ∧ W.cell? ⟨b, o + k * 6 + 4, none⟩ = some (.int .i64 y.n) ∧ W.cell? ⟨b, o + k * 6 + 5, none⟩ = some (.slice ya y.kids.length yc) ∧
        W.cell? ⟨b', o' + k * 6, none⟩ = some (.int .i64 y.kind) ∧ W.cell? ⟨b', o' + k * 6 + 1, none⟩ = some (.string y.text) ∧ W.cell? ⟨b', o' + k * 6 + 2, none⟩ = some (.string y.typ) ∧ W.cell? ⟨b', o' + k * 6 + 3, none⟩ = some (.string y.frm) ∧ W.cell? ⟨b', o' + k * 6 + 4, none⟩ = some (.int .i64 y.n) ∧ W.cell? ⟨b', o' + k * 6 + 5, none⟩ = some (.slice za y.kids.length zc) ∧ Kept wr W) (by kernel_rfl) (HH.out _ (Kept.refl wr).drew) (fun hHeld0 => ?_)
      clear a5 b5 n0 n1 n2 n3 n4 n5 m0 m1 m2 m3 m4 m5
      refine wpAnyH_take (i := 0) (v := ?_) rfl (by kernel_rfl) (by kernel_rfl) (by kernel_rfl) (fun _ _ _ h => h) (Or.inl ⟨by kernel_rfl, ?_⟩) (by assumption) ?_
      rotate_left
      · intro w hSw; (try dsimp only at hSw); go_simp; (try with_reducible rfl)
      (try simp only [Act.put, List.getElem_toArray, List.getElem_cons_zero, List.getElem_cons_succ, List.setIfInBounds_toArray, List.set_cons_zero, List.set_cons_succ])
      refine wpAnyH_take (i := 1) (v := ?_) rfl (by kernel_rfl) (by kernel_rfl) (by kernel_rfl) (fun _ _ _ h => h) (Or.inl ⟨by kernel_rfl, ?_⟩) (by assumption) ?_
      rotate_left
      · intro w hSw; (try dsimp only at hSw); go_simp; (try with_reducible rfl)
      (try simp only [Act.put, List.getElem_toArray, List.getElem_cons_zero, List.getElem_cons_succ, List.setIfInBounds_toArray, List.set_cons_zero, List.set_cons_succ])
      refine wpAnyH_take (i := 2) (v := ?_) rfl (by kernel_rfl) (by kernel_rfl) (by kernel_rfl) (fun _ _ _ h => h) (Or.inl ⟨by kernel_rfl, ?_⟩) (by assumption) ?_
      rotate_left
      · intro w hSw; (try dsimp only at hSw); go_simp; (try with_reducible rfl)
      (try simp only [Act.put, List.getElem_toArray, List.getElem_cons_zero, List.getElem_cons_succ, List.setIfInBounds_toArray, List.set_cons_zero, List.set_cons_succ])
      refine wpAnyH_take (i := 3) (v := ?_) rfl (by kernel_rfl) (by kernel_rfl) (by kernel_rfl) (fun _ _ _ h => h) (Or.inl ⟨by kernel_rfl, ?_⟩) (by assumption) ?_
      rotate_left
      · intro w hSw; (try dsimp only at hSw); go_simp; (try with_reducible rfl)
      (try simp only [Act.put, List.getElem_toArray, List.getElem_cons_zero, List.getElem_cons_succ, List.setIfInBounds_toArray, List.set_cons_zero, List.set_cons_succ])
      refine wpAnyH_take (i := 4) (v := ?_) rfl (by kernel_rfl) (by kernel_rfl) (by kernel_rfl) (fun _ _ _ h => h) (Or.inl ⟨by kernel_rfl, ?_⟩) (by assumption) ?_
      rotate_left
      · intro w hSw; (try dsimp only at hSw); go_simp; (try with_reducible rfl)
      (try simp only [Act.put, List.getElem_toArray, List.getElem_cons_zero, List.getElem_cons_succ, List.setIfInBounds_toArray, List.set_cons_zero, List.set_cons_succ])
      refine wpAnyH_take (i := 5) (v := ?_) rfl (by kernel_rfl) (by kernel_rfl) (by kernel_rfl) (fun _ _ _ h => h) (Or.inl ⟨by kernel_rfl, ?_⟩) (by assumption) ?_
      rotate_left
      · intro w hSw; (try dsimp only at hSw); go_simp; (try with_reducible rfl)
      (try simp only [Act.put, List.getElem_toArray, List.getElem_cons_zero, List.getElem_cons_succ, List.setIfInBounds_toArray, List.set_cons_zero, List.set_cons_succ])
      refine wpAnyH_take (i := 6) (v := ?_) rfl (by kernel_rfl) (by kernel_rfl) (by kernel_rfl) (fun _ _ _ h => h) (Or.inl ⟨by kernel_rfl, ?_⟩) (by assumption) ?_
      rotate_left
      · intro w hSw; (try dsimp only at hSw); go_simp; (try with_reducible rfl)
      (try simp only [Act.put, List.getElem_toArray, List.getElem_cons_zero, List.getElem_cons_succ, List.setIfInBounds_toArray, List.set_cons_zero, List.set_cons_succ])
      refine wpAnyH_take (i := 7) (v := ?_) rfl (by kernel_rfl) (by kernel_rfl) (by kernel_rfl) (fun _ _ _ h => h) (Or.inl ⟨by kernel_rfl, ?_⟩) (by assumption) ?_
      rotate_left
      · intro w hSw; (try dsimp only at hSw); go_simp; (try with_reducible rfl)
      (try simp only [Act.put, List.getElem_toArray, List.getElem_cons_zero, List.getElem_cons_succ, List.setIfInBounds_toArray, List.set_cons_zero, List.set_cons_succ])
      refine wpAnyH_take (i := 8) (v := ?_) rfl (by kernel_rfl) (by kernel_rfl) (by kernel_rfl) (fun _ _ _ h => h) (Or.inl ⟨by kernel_rfl, ?_⟩) (by assumption) ?_
      rotate_left
      · intro w hSw; (try dsimp only at hSw); go_simp; (try with_reducible rfl)
      (try simp only [Act.put, List.getElem_toArray, List.getElem_cons_zero, List.getElem_cons_succ, List.setIfInBounds_toArray, List.set_cons_zero, List.set_cons_succ])
      refine wpAnyH_take (i := 9) (v := ?_) rfl (by kernel_rfl) (by kernel_rfl) (by kernel_rfl) (fun _ _ _ h => h) (Or.inl ⟨by kernel_rfl, ?_⟩) (by assumption) ?_
      rotate_left
      · intro w hSw; (try dsimp only at hSw); go_simp; (try with_reducible rfl)
      (try simp only [Act.put, List.getElem_toArray, List.getElem_cons_zero, List.getElem_cons_succ, List.setIfInBounds_toArray, List.set_cons_zero, List.set_cons_succ])
      refine wpAnyH_ready (rs := [10]) (by kernel_rfl) (by simp) ?_
      refine AllReadyH.cons rfl (fun K hK => ?_) AllReadyH.nil
      go_simp
      go_at_call 17
      refine (HC.out _ (Kept.refl wr).drew).mono ?_
      rintro e w2 ⟨rfl, k2⟩
      replace k2 := Lib.hid ((Kept.refl wr).drew.trans k2)
      refine hK.out _ _ (HH.out _ k2.out) (fun hHeld1 => ?_)
      clear hK K
      (try simp only [Act.put, List.getElem_toArray, List.getElem_cons_zero, List.getElem_cons_succ, List.setIfInBounds_toArray, List.set_cons_zero, List.set_cons_succ])
      clear hHeld0
      refine wpAnyH_take (i := 11) (v := ?_) rfl (by kernel_rfl) (by kernel_rfl) (by kernel_rfl) (fun _ _ _ h => h) (Or.inl ⟨by kernel_rfl, ?_⟩) (by assumption) ?_
      rotate_left
      · intro w hSw; (try dsimp only at hSw); go_simp; (try with_reducible rfl)
      (try simp only [Act.put, List.getElem_toArray, List.getElem_cons_zero, List.getElem_cons_succ, List.setIfInBounds_toArray, List.set_cons_zero, List.set_cons_succ])
      refine wpAnyH_done (by kernel_rfl) ?_ _
      go_wp2_with fail
      go_roundw
      case rel => exact ⟨k + 1, by go_num, by omega, HK.out.trans k2.out⟩
      case measure => simp [intOf]; omega
    · obtain rfl : k = l.length := by omega
      have hltI : ¬ (l.length : Int) < (l.length : Int) := by omega
      clear hkp
      go_wp2_with fail
      go_ret
      exact ⟨rfl, HK1.out.trans HK.out⟩

end Go.Proofs.YtfkmnpgpfmkjaaaGreatDoor
namespace Go.Proofs.YtfkmnpgpfmkjaaaGreatDoor
open Go.ChangeShapes Go.WideShapes Go.ChangeAt Go.RowKit Go.Shelf
attribute [local go_sem] Oper.semAt_some

/-- All that the walks read of the tables. -/
structure PTab (w : World) : Prop where
  tb : Tb w
  er : Er w
  so : Sorts w
theorem PTab.kept {w w' : World} (h : PTab w) (k : Kept w w') : PTab w' := ⟨h.tb.kept k, h.er.kept k, by obtain ⟨t, fr, h⟩ := h.so; exact ⟨t, fr, (k.block _ (Array.getElem?_eq_some_iff.1 h).1).trans h⟩⟩

/-- A tree that was made: v is its kids' slice. -/
structure Mk (w : World) (x : Nd) (v : Value) : Prop where
  ok : x.ok1
  kids : ∃ a c, v = .slice a x.kids.length c ∧ KidsAt w (.slice a x.kids.length c) x.kids
theorem Mk.kept {w w' : World} {x : Nd} {v : Value} (h : Mk w x v) (k : Kept w w') : Mk w' x v := ⟨h.ok, by obtain ⟨a, c, e, h2⟩ := h.kids; exact ⟨a, c, e, KidsD.kept h2 k⟩⟩
/-- Kids that were made at once. -/
def Ks (w : World) (v : Value) (l : List Nd) : Prop := ∃ a c, v = .slice a l.length c ∧ KidsAt w (.slice a l.length c) l
theorem Ks.kept {w w' : World} {l : List Nd} {v : Value} (h : Ks w v l) (k : Kept w w') : Ks w' v l := by obtain ⟨a, c, e, h2⟩ := h; exact ⟨a, c, e, KidsD.kept h2 k⟩
theorem Ks.nil (w : World) : Ks w (.slice none 0 0) [] := ⟨none, 0, rfl, Row.nil⟩
theorem lit_kids {X : World} (ks : List (Nd × Value)) {cs : Array Value} {g n : Nat} (hg : g = X.heap.size) (hn : n = ks.length) (hcs : cs = (ks.flatMap fun p => ndC p.1 p.2).toArray) (hm : ks.length ≤ 100) (h : ∀ q ∈ ks, Mk X q.1 q.2) :
    Ks (X.alloc (.cells cs nT)) (.slice (some ⟨g, 0, none⟩) n n) (ks.map (·.1)) := by
  subst hg hn hcs
  have hl := flat_len (fun p : Nd × Value => ndC p.1 p.2) ndC_len ks
  have hb : Blk (X.alloc (.cells (ks.flatMap fun p => ndC p.1 p.2).toArray nT)) X.heap.size nT (ks.flatMap fun p => ndC p.1 p.2).toArray := Blk.new _ _ _
  refine ⟨_, ks.length, by rw [List.length_map], _, _, rfl, by rw [List.length_map]; exact Nat.le_refl _, by unfold maxLen; omega, fun i y hy => ⟨X.heap.size, 0, rfl, ?_⟩⟩
  rw [List.getElem?_map] at hy
  obtain ⟨q, hq, rfl⟩ := Option.map_eq_some_iff.1 hy
  obtain ⟨hok, a, c, e, hk⟩ := h q (List.mem_of_getElem? hq)
  refine NdD.shut (ad := a) (c := c) (fun j u hu => ?_) hok (KidsD.kept hk ((Kept.refl X).alloc _)) trivial
  rw [← e] at hu
  have hj : j < 6 := by
    rcases Nat.lt_or_ge j 6 with h | h
    · exact h
    · rw [List.getElem?_eq_none (by rw [ndC_len]; exact h)] at hu; cases hu
  rw [hb.cell]
  have := (flat_at (fun p : Nd × Value => ndC p.1 p.2) ndC_len ks i j q hq hj).trans hu
  simpa [Nat.add_assoc] using this

theorem pnode_c (k : Int) (t : ByteArray) (a : Option Addr) (n c : Nat) (w : World) : Calls Tryz.prog 9 #[.int .i64 k, .string t, .slice a n c] w fun e w' => e = .returned (.agg #[.int .i64 k, .string t, .string ⟨#[]⟩, .string ⟨#[]⟩, .int .i64 0, .slice a n c]) ∧ Kept w w' := by
  go_enter Tryz.func9, Tryz.ntmps9
  go_wp2_with fail
  exact bodyPost_ret (nd_results (x := .mk k t ⟨#[]⟩ ⟨#[]⟩ 0 []) (v := .slice a n c) (by rfl) _ _ rfl (Blk.new _ _ _)) rfl ⟨rfl, (Kept.refl w).alloc _⟩
theorem ptyped_c (k : Int) (t y : ByteArray) (a : Option Addr) (n c : Nat) (w : World) : Calls Tryz.prog 12 #[.int .i64 k, .string t, .string y, .slice a n c] w fun e w' => e = .returned (.agg #[.int .i64 k, .string t, .string y, .string ⟨#[]⟩, .int .i64 0, .slice a n c]) ∧ Kept w w' := by
  go_enter Tryz.func12, Tryz.ntmps12
  go_wp2_with fail
  exact bodyPost_ret (nd_results (x := .mk k t y ⟨#[]⟩ 0 []) (v := .slice a n c) (by rfl) _ _ rfl (Blk.new _ _ _)) rfl ⟨rfl, (Kept.refl w).alloc _⟩
theorem pnumber_c (k : Int) (w : World) : Calls Tryz.prog 11 #[.int .i64 k] w fun e w' => e = .returned (.agg #[.int .i64 7, .string ⟨#[]⟩, .string ⟨#[]⟩, .string ⟨#[]⟩, .int .i64 k, .slice none 0 0]) ∧ Kept w w' := by
  go_enter Tryz.func11, Tryz.ntmps11
  go_wp2_with fail
  exact bodyPost_ret (nd_results (x := .mk 7 ⟨#[]⟩ ⟨#[]⟩ ⟨#[]⟩ k []) (v := .slice none 0 0) (by rfl) _ _ rfl (Blk.new _ _ _)) rfl ⟨rfl, (Kept.refl w).alloc _⟩
theorem pnamed_c (t : ByteArray) (w : World) : Calls Tryz.prog 10 #[.string t] w fun e w' => e = .returned (.agg #[.int .i64 14, .string t, .string ⟨#[]⟩, .string ⟨#[]⟩, .int .i64 0, .slice none 0 0]) ∧ Kept w w' := by
  obtain ⟨W0, hW0⟩ : ∃ W, w.alloc (.cells pzN nT) = W := ⟨_, rfl⟩
  have k0 : Kept w W0 := by rw [← hW0]; exact (Kept.refl _).alloc _
  have b0 : Blk W0 w.heap.size nT pzN := by rw [← hW0]; exact Blk.new _ _ _
  have HW0 := Lib.hid hW0
  have HK0 := Lib.hid k0
  have HB0 := Lib.hid b0
  clear hW0 k0 b0
  go_enter Tryz.func10, Tryz.ntmps10
  go_wp2_with (first | rw [HW0.out] | (go_at_call 9; refine (pnode_c _ _ _ _ _ _).mono ?_; rintro e w1 ⟨rfl, k1⟩; have HK1 := Lib.hid k1; obtain ⟨⟨y0, y1, y2, y3, y4, y5⟩, f0, f1, f2, f3, f4, f5⟩ := nd_six (HB0.out.kept k1); clear k1))
  have h1 := put6n_only
  exact bodyPost_ret (nd_results (x := .mk 14 t ⟨#[]⟩ ⟨#[]⟩ 0 []) (v := .slice none 0 0) (by rfl) _ _ rfl (put6n_blk (HB0.out.kept HK1.out) (.mk 14 t ⟨#[]⟩ ⟨#[]⟩ 0 []) (.slice none 0 0))) rfl ⟨rfl, (HK0.out.trans HK1.out).only (put6n_only w1 w.heap.size (.mk 14 t ⟨#[]⟩ ⟨#[]⟩ 0 []) (.slice none 0 0)) rfl (fun k hk => by omega)⟩

/-- A node's box and a fault's, made and then written. -/
theorem two_boxes (w : World) (x : Nd) (v : Value) (e a : Int) {Z6 Z7 Z8 : World} (h6 : (w.alloc (.cells pzN nT)).alloc (.cells #[.int .i64 0, .int .i64 0] 36) = Z6) (h7 : put6n Z6 w.heap.size x v = Z7) (h8 : (Z7.setCell ⟨w.heap.size + 1, 0, none⟩ (.int .i64 e)).setCell ⟨w.heap.size + 1, 1, none⟩ (.int .i64 a) = Z8) :
    Blk Z6 w.heap.size nT pzN ∧ Blk Z7 (w.heap.size + 1) 36 #[.int .i64 0, .int .i64 0] ∧ Blk Z8 w.heap.size nT (ndA x v) ∧ Blk Z8 (w.heap.size + 1) 36 #[.int .i64 e, .int .i64 a] ∧ Kept w Z8 := by
  have b6 : Blk Z6 w.heap.size nT pzN := by rw [← h6]; exact (Blk.new _ _ _).alloc _
  have c6 : Blk Z6 (w.heap.size + 1) 36 #[.int .i64 0, .int .i64 0] := by rw [← h6]; exact blk_new (by simp)
  have k6 : Kept w Z6 := by rw [← h6]; exact ((Kept.refl _).alloc _).alloc _
  have o7 : Only (· = w.heap.size) Z6 Z7 := by rw [← h7]; exact put6n_only _ _ _ _
  have b7 : Blk Z7 w.heap.size nT (ndA x v) := by rw [← h7]; exact put6n_blk b6 x v
  have c7 := c6.only o7 (by omega)
  have o8 : Only (· = w.heap.size + 1) Z7 Z8 := by rw [← h8]; exact ((Only.refl _ _).put 0 _).put 1 _
  have c8 : Blk Z8 (w.heap.size + 1) 36 #[.int .i64 e, .int .i64 a] := by
    rw [← h8]
    have := (c7.put 0 (.int .i64 e)).put 1 (.int .i64 a)
    simpa using this
  exact ⟨b6, c7, b7.only o8 (by omega), c8, (k6.only o7 rfl (fun k hk => by omega)).only o8 rfl (fun k hk => by omega)⟩

set_option maxHeartbeats 4000000 in
theorem means_c (s : ByteArray) (hs : s.size ≤ 1000000) (x : Nd) (v : Value) (w : World) (hT : PTab w) (hv : Mk w x v) (hp : parseP s.data.toList = .tree x) :
    Calls Tryz.prog 13 #[.string s, ndV x v] w fun e w' => e = .returned (.bool true) ∧ Kept w w' := by
  obtain ⟨W1, hW1⟩ : ∃ W, w.alloc (.cells (ndA x v) nT) = W := ⟨_, rfl⟩
  have k1 : Kept w W1 := by rw [← hW1]; exact (Kept.refl _).alloc _
  have b1 : Blk W1 w.heap.size nT (ndA x v) := by rw [← hW1]; exact Blk.new _ _ _
  have hcv := Lib.run_convert_string_bytes (P := Tryz.prog) W1 9 33 5 s Tryz.underlying9 Tryz.underlying33 Tryz.underlying5
  have hl : s.data.toList.length = s.size := by rw [Array.length_toList]; rfl
  have hsrc := src_of_text s W1 hs
  obtain ⟨W4, hW4⟩ : ∃ W4, Lib.bytesWorld W1 5 s = W4 := ⟨_, rfl⟩
  have k4 : Kept W1 W4 := by rw [← hW4]; exact Kept.of_below (Lib.bytesWorld_below _ _ _)
  rw [hW4] at hcv hsrc
  have hT4 := (hT.kept k1).kept k4
  have HPC := Lib.hid (parse_c (some ⟨W1.heap.size, 0, none⟩) _ s.data.toList W4 hsrc hT4.tb hT4.er hT4.so)
  rw [hl, hp] at HPC
  have HB1 := Lib.hid (b1.kept k4)
  have HV := Lib.hid ((hv.kept k1).kept k4)
  have HW1 := Lib.hid hW1
  have HK4 := Lib.hid (k1.trans k4)
  obtain ⟨av, cv, e, _⟩ := hv.kids
  subst e
  have hq := fun W => eqF 0 0 0 0 W
  clear hsrc hW4 k4 hT hT4 hl hW1 k1 b1 hv hp
  go_enter Tryz.func13, Tryz.ntmps13
  go_wp2_with (rw [HW1.out])
  refine HPC.out.mono ?_
  rintro e w5 (⟨x5, k5s, v5, h1, rfl, hx, hk, hok, hcnt, hce, k5⟩ | ⟨_, _, h1, _⟩)
  rotate_left
  · cases h1
  injection h1 with h1
  subst h1
  obtain ⟨a5, c5, rfl⟩ := hk.slice
  have hl5 : k5s.length = x.kids.length := by rw [hx, List.length_map]
  have hkk : KidsAt w5 (.slice a5 x.kids.length c5) x.kids := by
    have := hk.kids.at
    rw [← hx, hl5] at this
    exact this
  rw [hl5]
  obtain ⟨Z6, h6⟩ : ∃ Z, (w5.alloc (.cells pzN nT)).alloc (.cells #[.int .i64 0, .int .i64 0] 36) = Z := ⟨_, rfl⟩
  obtain ⟨Z7, h7⟩ : ∃ Z, put6n Z6 w5.heap.size x (.slice a5 x.kids.length c5) = Z := ⟨_, rfl⟩
  obtain ⟨W7, hW7⟩ : ∃ Z, (Z7.setCell ⟨w5.heap.size + 1, 0, none⟩ (.int .i64 0)).setCell ⟨w5.heap.size + 1, 1, none⟩ (.int .i64 0) = Z := ⟨_, rfl⟩
  obtain ⟨t1, t2, b6, b7, k7⟩ := two_boxes w5 x (.slice a5 x.kids.length c5) 0 0 h6 h7 hW7
  have HZ6 := Lib.hid h6
  have HZ7 := Lib.hid (show (((((Z6.setCell ⟨w5.heap.size, 0, none⟩ (.int .i64 x.kind)).setCell ⟨w5.heap.size, 1, none⟩ (.string x.text)).setCell ⟨w5.heap.size, 2, none⟩ (.string x.typ)).setCell ⟨w5.heap.size, 3, none⟩ (.string x.frm)).setCell ⟨w5.heap.size, 4, none⟩ (.int .i64 x.n)).setCell ⟨w5.heap.size, 5, none⟩ (.slice a5 x.kids.length c5) = Z7 from h7)
  obtain ⟨⟨q0, q1, q2, q3, q4, q5⟩, f0, f1, f2, f3, f4, f5⟩ := nd_six t1
  have p0 := t2.cell 0
  have p1 := t2.cell 1
  have r0 := t2.frozen 0
  have r1 := t2.frozen 1
  clear t1 t2 h6 h7
  have b1 := (HB1.out.kept k5).kept k7
  obtain ⟨⟨y0, y1, y2, y3, y4, y5⟩, _⟩ := nd_six b6
  obtain ⟨⟨z0, z1, z2, z3, z4, z5⟩, _⟩ := nd_six b1
  have i0 := b7.cell 0
  have i1 := b7.cell 1
  have HSN := Lib.hid (show Calls Tryz.prog 17 #[ndV x (.slice a5 x.kids.length c5), ndV x (.slice av x.kids.length cv)] W7 (fun e w' => e = .returned (.bool true) ∧ Kept W7 w') from by
    obtain ⟨a', c', e, hk'⟩ := ((HV.out.kept k5).kept k7).kids
    injection e with e1 e2 e3
    subst e1 e3
    exact sameN_c x a5 c5 _ _ W7 (KidsD.kept hkk k7) hk')
  have HK7 := Lib.hid ((HK4.out.trans k5).trans k7)
  have HW7 := Lib.hid hW7
  clear hx hk hok hcnt hce k5 hl5 hkk hW7 k7 b6 b7 b1 hcv HPC
  go_wp2_with (first | rw [HZ6.out] | rw [HZ7.out] | rw [HW7.out])
  refine HSN.out.mono ?_
  rintro e w8 ⟨rfl, k8⟩
  have HK8 := Lib.hid k8
  clear k8
  go_wp2_with fail
  go_ret
  exact ⟨rfl, HK7.out.trans HK8.out⟩

set_option maxHeartbeats 4000000 in
theorem pfails_c (s : ByteArray) (hs : s.size ≤ 1000000) (n : Int) (w : World) (hT : PTab w) (hp : parseP s.data.toList = .fault 5 n) :
    Calls Tryz.prog 15 #[.string s, .int .i64 n] w fun e w' => e = .returned (.bool true) ∧ Kept w w' := by
  have hcv := Lib.run_convert_string_bytes (P := Tryz.prog) w 9 33 5 s Tryz.underlying9 Tryz.underlying33 Tryz.underlying5
  have hl : s.data.toList.length = s.size := by rw [Array.length_toList]; rfl
  have hsrc := src_of_text s w hs
  obtain ⟨W4, hW4⟩ : ∃ W4, Lib.bytesWorld w 5 s = W4 := ⟨_, rfl⟩
  have k4 : Kept w W4 := by rw [← hW4]; exact Kept.of_below (Lib.bytesWorld_below _ _ _)
  rw [hW4] at hcv hsrc
  have hT4 := hT.kept k4
  have HPC := Lib.hid (parse_c (some ⟨w.heap.size, 0, none⟩) _ s.data.toList W4 hsrc hT4.tb hT4.er hT4.so)
  rw [hl, hp] at HPC
  have HK4 := Lib.hid k4
  have hq : ∀ W, (binOp .eql 36 (fagg 5 n) (fagg 5 n)).run Tryz.prog W = .ok (.bool true) W := fun W => by
    have := eqF 5 n 5 n W
    simpa using this
  clear hsrc hW4 k4 hT hT4 hl hp
  go_enter Tryz.func15, Tryz.ntmps15
  go_wp2_with fail
  refine HPC.out.mono ?_
  rintro e w5 (⟨_, _, _, h1, _⟩ | ⟨er, ea, h1, _, rfl, k5⟩)
  · cases h1
  injection h1 with h1 h2
  subst h1 h2
  obtain ⟨Z6, h6⟩ : ∃ Z, (w5.alloc (.cells pzN nT)).alloc (.cells #[.int .i64 0, .int .i64 0] 36) = Z := ⟨_, rfl⟩
  obtain ⟨Z7, h7⟩ : ∃ Z, put6n Z6 w5.heap.size (Ps.nd 0 Ps.e0 Ps.e0 0 []) (.slice none 0 0) = Z := ⟨_, rfl⟩
  obtain ⟨W7, hW7⟩ : ∃ Z, (Z7.setCell ⟨w5.heap.size + 1, 0, none⟩ (.int .i64 5)).setCell ⟨w5.heap.size + 1, 1, none⟩ (.int .i64 n) = Z := ⟨_, rfl⟩
  obtain ⟨t1, t2, b6, b7, k7⟩ := two_boxes w5 (Ps.nd 0 Ps.e0 Ps.e0 0 []) (.slice none 0 0) 5 n h6 h7 hW7
  have HZ6 := Lib.hid h6
  have HZ7 := Lib.hid (show (((((Z6.setCell ⟨w5.heap.size, 0, none⟩ (.int .i64 0)).setCell ⟨w5.heap.size, 1, none⟩ (.string ⟨#[]⟩)).setCell ⟨w5.heap.size, 2, none⟩ (.string ⟨#[]⟩)).setCell ⟨w5.heap.size, 3, none⟩ (.string ⟨#[]⟩)).setCell ⟨w5.heap.size, 4, none⟩ (.int .i64 0)).setCell ⟨w5.heap.size, 5, none⟩ (.slice none 0 0) = Z7 from h7)
  obtain ⟨⟨q0, q1, q2, q3, q4, q5⟩, f0, f1, f2, f3, f4, f5⟩ := nd_six t1
  have p0 := t2.cell 0
  have p1 := t2.cell 1
  have r0 := t2.frozen 0
  have r1 := t2.frozen 1
  clear t1 t2 h6 h7
  obtain ⟨⟨y0, y1, y2, y3, y4, y5⟩, _⟩ := nd_six (show Blk W7 w5.heap.size nT pzN from b6)
  have i0 := b7.cell 0
  have i1 := b7.cell 1
  have HSN := Lib.hid (show Calls Tryz.prog 17 #[.agg #[.int .i64 0, .string ⟨#[]⟩, .string ⟨#[]⟩, .string ⟨#[]⟩, .int .i64 0, .slice none 0 0], .agg #[.int .i64 0, .string ⟨#[]⟩, .string ⟨#[]⟩, .string ⟨#[]⟩, .int .i64 0, .slice none 0 0]] W7 (fun e w' => e = .returned (.bool true) ∧ Kept W7 w') from sameN_c (Ps.nd 0 Ps.e0 Ps.e0 0 []) none 0 none 0 W7 Row.nil Row.nil)
  have HK7 := Lib.hid ((HK4.out.trans k5).trans k7)
  have HW7 := Lib.hid hW7
  clear k5 hW7 k7 b6 b7 hcv HPC
  go_wp2_with (first | rw [HZ6.out] | rw [HZ7.out] | rw [HW7.out])
  refine HSN.out.mono ?_
  rintro e w8 ⟨rfl, k8⟩
  have HK8 := Lib.hid k8
  clear k8
  go_wp2_with fail
  go_ret
  exact ⟨rfl, HK7.out.trans HK8.out⟩

/-- A program of these expressions. -/
def progL (l : List Nd) : Nd := Ps.nd 1 Ps.e0 Ps.e0 0 [Ps.nd 6 Ps.e0 Ps.e0 0 l]
set_option maxHeartbeats 4000000 in
theorem does_c (s : ByteArray) (hs : s.size ≤ 1000000) (l : List Nd) (v : Value) (w : World) (hT : PTab w) (hv : Ks w v l) (hp : parseP s.data.toList = .tree (progL l)) :
    Calls Tryz.prog 8 #[.string s, v] w fun e w' => e = .returned (.bool true) ∧ Kept w w' := by
  obtain ⟨a, c, rfl, hk⟩ := hv
  have HT := Lib.hid hT
  have HP := Lib.hid hp
  have HV := Lib.hid (show Ks w (.slice a l.length c) l from ⟨a, c, rfl, hk⟩)
  clear hT hp hk
  go_enter Tryz.func8, Tryz.ntmps8
  go_wp2_with fail
  refine (pnode_c _ _ _ _ _ _).mono ?_
  rintro e w1 ⟨rfl, k1⟩
  obtain ⟨W2, hW2⟩ : ∃ W, w1.alloc (.cells (ndA (Ps.nd 6 Ps.e0 Ps.e0 0 l) (.slice a l.length c)) nT) = W := ⟨_, rfl⟩
  have k2 : Kept w1 W2 := by rw [← hW2]; exact (Kept.refl _).alloc _
  have HL2 := Lib.hid (show Ks W2 (.slice (some ⟨w1.heap.size, 0, none⟩) 1 1) [Ps.nd 6 Ps.e0 Ps.e0 0 l] by
    rw [← hW2]
    exact lit_kids [(Ps.nd 6 Ps.e0 Ps.e0 0 l, .slice a l.length c)] rfl rfl rfl (by simp) (fun q hq => by
      rw [List.mem_singleton] at hq; subst hq
      exact ⟨nd_ok1 _ _ _ _ _ (by decide) e0_size e0_size (by decide), HV.out.kept k1⟩))
  have HK2 := Lib.hid (k1.trans k2)
  have HW2 := Lib.hid (show w1.alloc (.cells #[.int .i64 6, .string ⟨#[]⟩, .string ⟨#[]⟩, .string ⟨#[]⟩, .int .i64 0, .slice a l.length c] nT) = W2 from hW2)
  clear k1 k2 hW2
  go_wp2_with (rw [HW2.out])
  refine (pnode_c _ _ _ _ _ _).mono ?_
  rintro e w3 ⟨rfl, k3⟩
  have HK3 := Lib.hid (HK2.out.trans k3)
  have HM := Lib.hid (show Mk w3 (progL l) (.slice (some ⟨w1.heap.size, 0, none⟩) 1 1) from ⟨nd_ok1 _ _ _ _ _ (by decide) e0_size e0_size (by decide), HL2.out.kept k3⟩)
  clear k3
  go_wp2_with fail
  refine (means_c s hs (progL l) _ w3 (HT.out.kept HK3.out) HM.out HP.out).mono ?_
  rintro e w4 ⟨rfl, k4⟩
  have HK4 := Lib.hid (HK3.out.trans k4)
  clear k4
  go_wp2_with fail
  go_ret
  exact ⟨rfl, HK4.out⟩
end Go.Proofs.YtfkmnpgpfmkjaaaGreatDoor
namespace Go.Proofs.YtfkmnpgpfmkjaaaGreatDoor
open Go.ChangeShapes Go.WideShapes Go.ChangeAt Go.RowKit Go.Shelf
attribute [local go_sem] Oper.semAt_some

theorem Hid.keptK {w a b : World} (h : Kept w a) (k : Kept a b) : Kept w b := h.trans k

set_option maxHeartbeats 16000000 in
theorem pawake_c (w : World) (hT : PTab w) : Calls Tryz.prog 14 #[] w fun e w' => e = .returned (.bool true) ∧ Kept w w' := by
  have HTB := Lib.hid hT
  have HKK := Lib.hid (Kept.refl w)
  clear hT
  go_enter Tryz.func14, Tryz.ntmps14
  go_wp2_with fail
  refine (does_c ⟨#[109, 97, 105, 110, 123, 125]⟩ (by decide) [] _ _ HTB.out (Ks.nil _) (show parseP (⟨#[109, 97, 105, 110, 123, 125]⟩ : ByteArray).data.toList = .tree (progL []) from px1)).mono ?_
  rintro e w1 ⟨rfl, k1⟩
  replace HTB := Lib.hid (HTB.out.kept k1)
  replace HKK := Lib.hid (HKK.out.trans k1)
  clear k1
  go_wp2_with fail
  refine (pnumber_c _ _).mono ?_
  rintro e w2 ⟨rfl, k2⟩
  replace HTB := Lib.hid (HTB.out.kept k2)
  replace HKK := Lib.hid (HKK.out.trans k2)
  have Hn1 := Lib.hid (show Mk w2 (Ps.nd 7 ⟨#[]⟩ ⟨#[]⟩ 1 []) (.slice none 0 0) from ⟨nd_ok1 _ _ _ _ _ (by decide) (by decide) (by decide) (by decide), Ks.nil _⟩)
  clear k2
  go_wp2_with fail
  refine (pnumber_c _ _).mono ?_
  rintro e w3 ⟨rfl, k3⟩
  replace HTB := Lib.hid (HTB.out.kept k3)
  replace Hn1 := Lib.hid (Hn1.out.kept k3)
  replace HKK := Lib.hid (HKK.out.trans k3)
  have Hn2 := Lib.hid (show Mk w3 (Ps.nd 7 ⟨#[]⟩ ⟨#[]⟩ 2 []) (.slice none 0 0) from ⟨nd_ok1 _ _ _ _ _ (by decide) (by decide) (by decide) (by decide), Ks.nil _⟩)
  clear k3
  go_wp2_with fail
  refine (pnumber_c _ _).mono ?_
  rintro e w4 ⟨rfl, k4⟩
  replace HTB := Lib.hid (HTB.out.kept k4)
  replace Hn1 := Lib.hid (Hn1.out.kept k4)
  replace Hn2 := Lib.hid (Hn2.out.kept k4)
  replace HKK := Lib.hid (HKK.out.trans k4)
  have Hn3 := Lib.hid (show Mk w4 (Ps.nd 7 ⟨#[]⟩ ⟨#[]⟩ 3 []) (.slice none 0 0) from ⟨nd_ok1 _ _ _ _ _ (by decide) (by decide) (by decide) (by decide), Ks.nil _⟩)
  clear k4
  go_wp2_with fail
  obtain ⟨w5, hw5⟩ : ∃ V, w4.alloc (.cells #[.int .i64 7, .string ⟨#[]⟩, .string ⟨#[]⟩, .string ⟨#[]⟩, .int .i64 2, .slice none 0 0, .int .i64 7, .string ⟨#[]⟩, .string ⟨#[]⟩, .string ⟨#[]⟩, .int .i64 3, .slice none 0 0] nT) = V := ⟨_, rfl⟩
  have k5 : Kept w4 w5 := by rw [← hw5]; exact (Kept.refl _).alloc _
  have Hl1 := Lib.hid (show Ks w5 (.slice (some ⟨w4.heap.size, 0, none⟩) 2 2) [(Ps.nd 7 ⟨#[]⟩ ⟨#[]⟩ 2 []), (Ps.nd 7 ⟨#[]⟩ ⟨#[]⟩ 3 [])] by
    rw [← hw5]
    exact lit_kids [((Ps.nd 7 ⟨#[]⟩ ⟨#[]⟩ 2 []), (.slice none 0 0)), ((Ps.nd 7 ⟨#[]⟩ ⟨#[]⟩ 3 []), (.slice none 0 0))] rfl rfl rfl (by simp) (fun q hq => by
      simp only [List.mem_cons, List.not_mem_nil, or_false] at hq
      rcases hq with rfl | rfl
      · exact Hn2.out
      · exact Hn3.out))
  replace HTB := Lib.hid (HTB.out.kept k5)
  replace Hn1 := Lib.hid (Hn1.out.kept k5)
  replace Hn2 := Lib.hid (Hn2.out.kept k5)
  replace Hn3 := Lib.hid (Hn3.out.kept k5)
  replace HKK := Lib.hid (HKK.out.trans k5)
  have HWw5 := Lib.hid hw5
  clear hw5 k5
  go_wp2_with (rw [HWw5.out])
  refine (pnode_c _ _ _ _ _ _).mono ?_
  rintro e w6 ⟨rfl, k6⟩
  replace HTB := Lib.hid (HTB.out.kept k6)
  replace Hn1 := Lib.hid (Hn1.out.kept k6)
  replace Hn2 := Lib.hid (Hn2.out.kept k6)
  replace Hn3 := Lib.hid (Hn3.out.kept k6)
  replace Hl1 := Lib.hid (Hl1.out.kept k6)
  replace HKK := Lib.hid (HKK.out.trans k6)
  have Hm1 := Lib.hid (show Mk w6 (Ps.nd 25 ⟨#[42]⟩ ⟨#[]⟩ 0 [(Ps.nd 7 ⟨#[]⟩ ⟨#[]⟩ 2 []), (Ps.nd 7 ⟨#[]⟩ ⟨#[]⟩ 3 [])]) (.slice (some ⟨w4.heap.size, 0, none⟩) 2 2) from ⟨nd_ok1 _ _ _ _ _ (by decide) (by decide) (by decide) (by decide), Hl1.out⟩)
  clear k6
  go_wp2_with fail
  obtain ⟨w7, hw7⟩ : ∃ V, w6.alloc (.cells #[.int .i64 7, .string ⟨#[]⟩, .string ⟨#[]⟩, .string ⟨#[]⟩, .int .i64 1, .slice none 0 0, .int .i64 25, .string ⟨#[42]⟩, .string ⟨#[]⟩, .string ⟨#[]⟩, .int .i64 0, .slice (some ⟨w4.heap.size, 0, none⟩) 2 2] nT) = V := ⟨_, rfl⟩
  have k7 : Kept w6 w7 := by rw [← hw7]; exact (Kept.refl _).alloc _
  have Hl2 := Lib.hid (show Ks w7 (.slice (some ⟨w6.heap.size, 0, none⟩) 2 2) [(Ps.nd 7 ⟨#[]⟩ ⟨#[]⟩ 1 []), (Ps.nd 25 ⟨#[42]⟩ ⟨#[]⟩ 0 [(Ps.nd 7 ⟨#[]⟩ ⟨#[]⟩ 2 []), (Ps.nd 7 ⟨#[]⟩ ⟨#[]⟩ 3 [])])] by
    rw [← hw7]
    exact lit_kids [((Ps.nd 7 ⟨#[]⟩ ⟨#[]⟩ 1 []), (.slice none 0 0)), ((Ps.nd 25 ⟨#[42]⟩ ⟨#[]⟩ 0 [(Ps.nd 7 ⟨#[]⟩ ⟨#[]⟩ 2 []), (Ps.nd 7 ⟨#[]⟩ ⟨#[]⟩ 3 [])]), (.slice (some ⟨w4.heap.size, 0, none⟩) 2 2))] rfl rfl rfl (by simp) (fun q hq => by
      simp only [List.mem_cons, List.not_mem_nil, or_false] at hq
      rcases hq with rfl | rfl
      · exact Hn1.out
      · exact Hm1.out))
  replace HTB := Lib.hid (HTB.out.kept k7)
  replace Hn1 := Lib.hid (Hn1.out.kept k7)
  replace Hn2 := Lib.hid (Hn2.out.kept k7)
  replace Hn3 := Lib.hid (Hn3.out.kept k7)
  replace Hl1 := Lib.hid (Hl1.out.kept k7)
  replace Hm1 := Lib.hid (Hm1.out.kept k7)
  replace HKK := Lib.hid (HKK.out.trans k7)
  have HWw7 := Lib.hid hw7
  clear hw7 k7
  go_wp2_with (rw [HWw7.out])
  refine (pnode_c _ _ _ _ _ _).mono ?_
  rintro e w8 ⟨rfl, k8⟩
  replace HTB := Lib.hid (HTB.out.kept k8)
  replace Hn1 := Lib.hid (Hn1.out.kept k8)
  replace Hn2 := Lib.hid (Hn2.out.kept k8)
  replace Hn3 := Lib.hid (Hn3.out.kept k8)
  replace Hl1 := Lib.hid (Hl1.out.kept k8)
  replace Hm1 := Lib.hid (Hm1.out.kept k8)
  replace Hl2 := Lib.hid (Hl2.out.kept k8)
  replace HKK := Lib.hid (HKK.out.trans k8)
  have Hm2 := Lib.hid (show Mk w8 (Ps.nd 25 ⟨#[43]⟩ ⟨#[]⟩ 0 [(Ps.nd 7 ⟨#[]⟩ ⟨#[]⟩ 1 []), (Ps.nd 25 ⟨#[42]⟩ ⟨#[]⟩ 0 [(Ps.nd 7 ⟨#[]⟩ ⟨#[]⟩ 2 []), (Ps.nd 7 ⟨#[]⟩ ⟨#[]⟩ 3 [])])]) (.slice (some ⟨w6.heap.size, 0, none⟩) 2 2) from ⟨nd_ok1 _ _ _ _ _ (by decide) (by decide) (by decide) (by decide), Hl2.out⟩)
  clear k8
  go_wp2_with fail
  obtain ⟨w9, hw9⟩ : ∃ V, w8.alloc (.cells #[.int .i64 25, .string ⟨#[43]⟩, .string ⟨#[]⟩, .string ⟨#[]⟩, .int .i64 0, .slice (some ⟨w6.heap.size, 0, none⟩) 2 2] nT) = V := ⟨_, rfl⟩
  have k9 : Kept w8 w9 := by rw [← hw9]; exact (Kept.refl _).alloc _
  have Hl3 := Lib.hid (show Ks w9 (.slice (some ⟨w8.heap.size, 0, none⟩) 1 1) [(Ps.nd 25 ⟨#[43]⟩ ⟨#[]⟩ 0 [(Ps.nd 7 ⟨#[]⟩ ⟨#[]⟩ 1 []), (Ps.nd 25 ⟨#[42]⟩ ⟨#[]⟩ 0 [(Ps.nd 7 ⟨#[]⟩ ⟨#[]⟩ 2 []), (Ps.nd 7 ⟨#[]⟩ ⟨#[]⟩ 3 [])])])] by
    rw [← hw9]
    exact lit_kids [((Ps.nd 25 ⟨#[43]⟩ ⟨#[]⟩ 0 [(Ps.nd 7 ⟨#[]⟩ ⟨#[]⟩ 1 []), (Ps.nd 25 ⟨#[42]⟩ ⟨#[]⟩ 0 [(Ps.nd 7 ⟨#[]⟩ ⟨#[]⟩ 2 []), (Ps.nd 7 ⟨#[]⟩ ⟨#[]⟩ 3 [])])]), (.slice (some ⟨w6.heap.size, 0, none⟩) 2 2))] rfl rfl rfl (by simp) (fun q hq => by
      simp only [List.mem_cons, List.not_mem_nil, or_false] at hq
      subst hq; exact Hm2.out))
  replace HTB := Lib.hid (HTB.out.kept k9)
  replace Hn1 := Lib.hid (Hn1.out.kept k9)
  replace Hn2 := Lib.hid (Hn2.out.kept k9)
  replace Hn3 := Lib.hid (Hn3.out.kept k9)
  replace Hl1 := Lib.hid (Hl1.out.kept k9)
  replace Hm1 := Lib.hid (Hm1.out.kept k9)
  replace Hl2 := Lib.hid (Hl2.out.kept k9)
  replace Hm2 := Lib.hid (Hm2.out.kept k9)
  replace HKK := Lib.hid (HKK.out.trans k9)
  have HWw9 := Lib.hid hw9
  clear hw9 k9
  go_wp2_with (rw [HWw9.out])
  refine (does_c ⟨#[109, 97, 105, 110, 123, 49, 43, 50, 42, 51, 59, 125]⟩ (by decide) [(Ps.nd 25 ⟨#[43]⟩ ⟨#[]⟩ 0 [(Ps.nd 7 ⟨#[]⟩ ⟨#[]⟩ 1 []), (Ps.nd 25 ⟨#[42]⟩ ⟨#[]⟩ 0 [(Ps.nd 7 ⟨#[]⟩ ⟨#[]⟩ 2 []), (Ps.nd 7 ⟨#[]⟩ ⟨#[]⟩ 3 [])])])] _ _ HTB.out Hl3.out (show parseP (⟨#[109, 97, 105, 110, 123, 49, 43, 50, 42, 51, 59, 125]⟩ : ByteArray).data.toList = .tree (progL [(Ps.nd 25 ⟨#[43]⟩ ⟨#[]⟩ 0 [(Ps.nd 7 ⟨#[]⟩ ⟨#[]⟩ 1 []), (Ps.nd 25 ⟨#[42]⟩ ⟨#[]⟩ 0 [(Ps.nd 7 ⟨#[]⟩ ⟨#[]⟩ 2 []), (Ps.nd 7 ⟨#[]⟩ ⟨#[]⟩ 3 [])])])]) from px2)).mono ?_
  rintro e w10 ⟨rfl, k10⟩
  replace HTB := Lib.hid (HTB.out.kept k10)
  replace Hn1 := Lib.hid (Hn1.out.kept k10)
  replace Hn2 := Lib.hid (Hn2.out.kept k10)
  replace Hn3 := Lib.hid (Hn3.out.kept k10)
  replace Hl1 := Lib.hid (Hl1.out.kept k10)
  replace Hm1 := Lib.hid (Hm1.out.kept k10)
  replace Hl2 := Lib.hid (Hl2.out.kept k10)
  replace Hm2 := Lib.hid (Hm2.out.kept k10)
  replace Hl3 := Lib.hid (Hl3.out.kept k10)
  replace HKK := Lib.hid (HKK.out.trans k10)
  clear k10
  go_wp2_with fail
  refine (pfails_c ⟨#[109, 97, 105, 110, 123, 49, 61, 50, 125]⟩ (by decide) 6 _ HTB.out (show parseP (⟨#[109, 97, 105, 110, 123, 49, 61, 50, 125]⟩ : ByteArray).data.toList = .fault 5 6 from px3)).mono ?_
  rintro e w11 ⟨rfl, k11⟩
  replace HTB := Lib.hid (HTB.out.kept k11)
  replace Hn1 := Lib.hid (Hn1.out.kept k11)
  replace Hn2 := Lib.hid (Hn2.out.kept k11)
  replace Hn3 := Lib.hid (Hn3.out.kept k11)
  replace Hl1 := Lib.hid (Hl1.out.kept k11)
  replace Hm1 := Lib.hid (Hm1.out.kept k11)
  replace Hl2 := Lib.hid (Hl2.out.kept k11)
  replace Hm2 := Lib.hid (Hm2.out.kept k11)
  replace Hl3 := Lib.hid (Hl3.out.kept k11)
  replace HKK := Lib.hid (HKK.out.trans k11)
  clear k11
  go_wp2_with fail
  go_ret
  exact ⟨rfl, HKK.out⟩

set_option maxHeartbeats 16000000 in
theorem pknown_c (w : World) (hT : PTab w) : Calls Tryz.prog 3 #[] w fun e w' => e = .returned (.bool true) ∧ Kept w w' := by
  have HTB := Lib.hid hT
  have HKK := Lib.hid (Kept.refl w)
  clear hT
  go_enter Tryz.func3, Tryz.ntmps3
  go_wp2_with fail
  refine (pnamed_c _ _).mono ?_
  rintro e w1 ⟨rfl, k1⟩
  replace HTB := Lib.hid (HTB.out.kept k1)
  replace HKK := Lib.hid (HKK.out.trans k1)
  have Ha1 := Lib.hid (show Mk w1 (Ps.nd 14 ⟨#[121]⟩ ⟨#[]⟩ 0 []) (.slice none 0 0) from ⟨nd_ok1 _ _ _ _ _ (by decide) (by decide) (by decide) (by decide), Ks.nil _⟩)
  clear k1
  go_wp2_with fail
  refine (pnumber_c _ _).mono ?_
  rintro e w2 ⟨rfl, k2⟩
  replace HTB := Lib.hid (HTB.out.kept k2)
  replace Ha1 := Lib.hid (Ha1.out.kept k2)
  replace HKK := Lib.hid (HKK.out.trans k2)
  have Ha2 := Lib.hid (show Mk w2 (Ps.nd 7 ⟨#[]⟩ ⟨#[]⟩ 1 []) (.slice none 0 0) from ⟨nd_ok1 _ _ _ _ _ (by decide) (by decide) (by decide) (by decide), Ks.nil _⟩)
  clear k2
  go_wp2_with fail
  obtain ⟨w3, hw3⟩ : ∃ V, w2.alloc (.cells #[.int .i64 14, .string ⟨#[121]⟩, .string ⟨#[]⟩, .string ⟨#[]⟩, .int .i64 0, .slice none 0 0, .int .i64 7, .string ⟨#[]⟩, .string ⟨#[]⟩, .string ⟨#[]⟩, .int .i64 1, .slice none 0 0] nT) = V := ⟨_, rfl⟩
  have k3 : Kept w2 w3 := by rw [← hw3]; exact (Kept.refl _).alloc _
  have Hb1 := Lib.hid (show Ks w3 (.slice (some ⟨w2.heap.size, 0, none⟩) 2 2) [(Ps.nd 14 ⟨#[121]⟩ ⟨#[]⟩ 0 []), (Ps.nd 7 ⟨#[]⟩ ⟨#[]⟩ 1 [])] by
    rw [← hw3]
    exact lit_kids [((Ps.nd 14 ⟨#[121]⟩ ⟨#[]⟩ 0 []), (.slice none 0 0)), ((Ps.nd 7 ⟨#[]⟩ ⟨#[]⟩ 1 []), (.slice none 0 0))] rfl rfl rfl (by simp) (fun q hq => by
      simp only [List.mem_cons, List.not_mem_nil, or_false] at hq
      rcases hq with rfl | rfl
      · exact Ha1.out
      · exact Ha2.out))
  replace HTB := Lib.hid (HTB.out.kept k3)
  replace Ha1 := Lib.hid (Ha1.out.kept k3)
  replace Ha2 := Lib.hid (Ha2.out.kept k3)
  replace HKK := Lib.hid (HKK.out.trans k3)
  have HWw3 := Lib.hid hw3
  clear hw3 k3
  go_wp2_with (rw [HWw3.out])
  refine (pnode_c _ _ _ _ _ _).mono ?_
  rintro e w4 ⟨rfl, k4⟩
  replace HTB := Lib.hid (HTB.out.kept k4)
  replace Ha1 := Lib.hid (Ha1.out.kept k4)
  replace Ha2 := Lib.hid (Ha2.out.kept k4)
  replace Hb1 := Lib.hid (Hb1.out.kept k4)
  replace HKK := Lib.hid (HKK.out.trans k4)
  have Ha3 := Lib.hid (show Mk w4 (Ps.nd 19 ⟨#[102]⟩ ⟨#[]⟩ 0 [(Ps.nd 14 ⟨#[121]⟩ ⟨#[]⟩ 0 []), (Ps.nd 7 ⟨#[]⟩ ⟨#[]⟩ 1 [])]) (.slice (some ⟨w2.heap.size, 0, none⟩) 2 2) from ⟨nd_ok1 _ _ _ _ _ (by decide) (by decide) (by decide) (by decide), Hb1.out⟩)
  clear k4
  go_wp2_with fail
  obtain ⟨w5, hw5⟩ : ∃ V, w4.alloc (.cells #[.int .i64 19, .string ⟨#[102]⟩, .string ⟨#[]⟩, .string ⟨#[]⟩, .int .i64 0, .slice (some ⟨w2.heap.size, 0, none⟩) 2 2] nT) = V := ⟨_, rfl⟩
  have k5 : Kept w4 w5 := by rw [← hw5]; exact (Kept.refl _).alloc _
  have Hb2 := Lib.hid (show Ks w5 (.slice (some ⟨w4.heap.size, 0, none⟩) 1 1) [(Ps.nd 19 ⟨#[102]⟩ ⟨#[]⟩ 0 [(Ps.nd 14 ⟨#[121]⟩ ⟨#[]⟩ 0 []), (Ps.nd 7 ⟨#[]⟩ ⟨#[]⟩ 1 [])])] by
    rw [← hw5]
    exact lit_kids [((Ps.nd 19 ⟨#[102]⟩ ⟨#[]⟩ 0 [(Ps.nd 14 ⟨#[121]⟩ ⟨#[]⟩ 0 []), (Ps.nd 7 ⟨#[]⟩ ⟨#[]⟩ 1 [])]), (.slice (some ⟨w2.heap.size, 0, none⟩) 2 2))] rfl rfl rfl (by simp) (fun q hq => by
      simp only [List.mem_cons, List.not_mem_nil, or_false] at hq
      subst hq; exact Ha3.out))
  replace HTB := Lib.hid (HTB.out.kept k5)
  replace Ha1 := Lib.hid (Ha1.out.kept k5)
  replace Ha2 := Lib.hid (Ha2.out.kept k5)
  replace Hb1 := Lib.hid (Hb1.out.kept k5)
  replace Ha3 := Lib.hid (Ha3.out.kept k5)
  replace HKK := Lib.hid (HKK.out.trans k5)
  have HWw5 := Lib.hid hw5
  clear hw5 k5
  go_wp2_with (rw [HWw5.out])
  refine (pnode_c _ _ _ _ _ _).mono ?_
  rintro e w6 ⟨rfl, k6⟩
  replace HTB := Lib.hid (HTB.out.kept k6)
  replace Ha1 := Lib.hid (Ha1.out.kept k6)
  replace Ha2 := Lib.hid (Ha2.out.kept k6)
  replace Hb1 := Lib.hid (Hb1.out.kept k6)
  replace Ha3 := Lib.hid (Ha3.out.kept k6)
  replace Hb2 := Lib.hid (Hb2.out.kept k6)
  replace HKK := Lib.hid (HKK.out.trans k6)
  have Ha4 := Lib.hid (show Mk w6 (Ps.nd 17 ⟨#[103]⟩ ⟨#[]⟩ 0 [(Ps.nd 19 ⟨#[102]⟩ ⟨#[]⟩ 0 [(Ps.nd 14 ⟨#[121]⟩ ⟨#[]⟩ 0 []), (Ps.nd 7 ⟨#[]⟩ ⟨#[]⟩ 1 [])])]) (.slice (some ⟨w4.heap.size, 0, none⟩) 1 1) from ⟨nd_ok1 _ _ _ _ _ (by decide) (by decide) (by decide) (by decide), Hb2.out⟩)
  clear k6
  go_wp2_with fail
  obtain ⟨w7, hw7⟩ : ∃ V, w6.alloc (.cells #[.int .i64 17, .string ⟨#[103]⟩, .string ⟨#[]⟩, .string ⟨#[]⟩, .int .i64 0, .slice (some ⟨w4.heap.size, 0, none⟩) 1 1] nT) = V := ⟨_, rfl⟩
  have k7 : Kept w6 w7 := by rw [← hw7]; exact (Kept.refl _).alloc _
  have Hb3 := Lib.hid (show Ks w7 (.slice (some ⟨w6.heap.size, 0, none⟩) 1 1) [(Ps.nd 17 ⟨#[103]⟩ ⟨#[]⟩ 0 [(Ps.nd 19 ⟨#[102]⟩ ⟨#[]⟩ 0 [(Ps.nd 14 ⟨#[121]⟩ ⟨#[]⟩ 0 []), (Ps.nd 7 ⟨#[]⟩ ⟨#[]⟩ 1 [])])])] by
    rw [← hw7]
    exact lit_kids [((Ps.nd 17 ⟨#[103]⟩ ⟨#[]⟩ 0 [(Ps.nd 19 ⟨#[102]⟩ ⟨#[]⟩ 0 [(Ps.nd 14 ⟨#[121]⟩ ⟨#[]⟩ 0 []), (Ps.nd 7 ⟨#[]⟩ ⟨#[]⟩ 1 [])])]), (.slice (some ⟨w4.heap.size, 0, none⟩) 1 1))] rfl rfl rfl (by simp) (fun q hq => by
      simp only [List.mem_cons, List.not_mem_nil, or_false] at hq
      subst hq; exact Ha4.out))
  replace HTB := Lib.hid (HTB.out.kept k7)
  replace Ha1 := Lib.hid (Ha1.out.kept k7)
  replace Ha2 := Lib.hid (Ha2.out.kept k7)
  replace Hb1 := Lib.hid (Hb1.out.kept k7)
  replace Ha3 := Lib.hid (Ha3.out.kept k7)
  replace Hb2 := Lib.hid (Hb2.out.kept k7)
  replace Ha4 := Lib.hid (Ha4.out.kept k7)
  replace HKK := Lib.hid (HKK.out.trans k7)
  have HWw7 := Lib.hid hw7
  clear hw7 k7
  go_wp2_with (rw [HWw7.out])
  refine (pnode_c _ _ _ _ _ _).mono ?_
  rintro e w8 ⟨rfl, k8⟩
  replace HTB := Lib.hid (HTB.out.kept k8)
  replace Ha1 := Lib.hid (Ha1.out.kept k8)
  replace Ha2 := Lib.hid (Ha2.out.kept k8)
  replace Hb1 := Lib.hid (Hb1.out.kept k8)
  replace Ha3 := Lib.hid (Ha3.out.kept k8)
  replace Hb2 := Lib.hid (Hb2.out.kept k8)
  replace Ha4 := Lib.hid (Ha4.out.kept k8)
  replace Hb3 := Lib.hid (Hb3.out.kept k8)
  replace HKK := Lib.hid (HKK.out.trans k8)
  have Ha5 := Lib.hid (show Mk w8 (Ps.nd 16 ⟨#[120]⟩ ⟨#[]⟩ 0 [(Ps.nd 17 ⟨#[103]⟩ ⟨#[]⟩ 0 [(Ps.nd 19 ⟨#[102]⟩ ⟨#[]⟩ 0 [(Ps.nd 14 ⟨#[121]⟩ ⟨#[]⟩ 0 []), (Ps.nd 7 ⟨#[]⟩ ⟨#[]⟩ 1 [])])])]) (.slice (some ⟨w6.heap.size, 0, none⟩) 1 1) from ⟨nd_ok1 _ _ _ _ _ (by decide) (by decide) (by decide) (by decide), Hb3.out⟩)
  clear k8
  go_wp2_with fail
  obtain ⟨w9, hw9⟩ : ∃ V, w8.alloc (.cells #[.int .i64 16, .string ⟨#[120]⟩, .string ⟨#[]⟩, .string ⟨#[]⟩, .int .i64 0, .slice (some ⟨w6.heap.size, 0, none⟩) 1 1] nT) = V := ⟨_, rfl⟩
  have k9 : Kept w8 w9 := by rw [← hw9]; exact (Kept.refl _).alloc _
  have Hb4 := Lib.hid (show Ks w9 (.slice (some ⟨w8.heap.size, 0, none⟩) 1 1) [(Ps.nd 16 ⟨#[120]⟩ ⟨#[]⟩ 0 [(Ps.nd 17 ⟨#[103]⟩ ⟨#[]⟩ 0 [(Ps.nd 19 ⟨#[102]⟩ ⟨#[]⟩ 0 [(Ps.nd 14 ⟨#[121]⟩ ⟨#[]⟩ 0 []), (Ps.nd 7 ⟨#[]⟩ ⟨#[]⟩ 1 [])])])])] by
    rw [← hw9]
    exact lit_kids [((Ps.nd 16 ⟨#[120]⟩ ⟨#[]⟩ 0 [(Ps.nd 17 ⟨#[103]⟩ ⟨#[]⟩ 0 [(Ps.nd 19 ⟨#[102]⟩ ⟨#[]⟩ 0 [(Ps.nd 14 ⟨#[121]⟩ ⟨#[]⟩ 0 []), (Ps.nd 7 ⟨#[]⟩ ⟨#[]⟩ 1 [])])])]), (.slice (some ⟨w6.heap.size, 0, none⟩) 1 1))] rfl rfl rfl (by simp) (fun q hq => by
      simp only [List.mem_cons, List.not_mem_nil, or_false] at hq
      subst hq; exact Ha5.out))
  replace HTB := Lib.hid (HTB.out.kept k9)
  replace Ha1 := Lib.hid (Ha1.out.kept k9)
  replace Ha2 := Lib.hid (Ha2.out.kept k9)
  replace Hb1 := Lib.hid (Hb1.out.kept k9)
  replace Ha3 := Lib.hid (Ha3.out.kept k9)
  replace Hb2 := Lib.hid (Hb2.out.kept k9)
  replace Ha4 := Lib.hid (Ha4.out.kept k9)
  replace Hb3 := Lib.hid (Hb3.out.kept k9)
  replace Ha5 := Lib.hid (Ha5.out.kept k9)
  replace HKK := Lib.hid (HKK.out.trans k9)
  have HWw9 := Lib.hid hw9
  clear hw9 k9
  go_wp2_with (rw [HWw9.out])
  refine (does_c ⟨#[109, 97, 105, 110, 123, 120, 61, 121, 46, 102, 40, 49, 41, 46, 103, 125]⟩ (by decide) [(Ps.nd 16 ⟨#[120]⟩ ⟨#[]⟩ 0 [(Ps.nd 17 ⟨#[103]⟩ ⟨#[]⟩ 0 [(Ps.nd 19 ⟨#[102]⟩ ⟨#[]⟩ 0 [(Ps.nd 14 ⟨#[121]⟩ ⟨#[]⟩ 0 []), (Ps.nd 7 ⟨#[]⟩ ⟨#[]⟩ 1 [])])])])] _ _ HTB.out Hb4.out (show parseP (⟨#[109, 97, 105, 110, 123, 120, 61, 121, 46, 102, 40, 49, 41, 46, 103, 125]⟩ : ByteArray).data.toList = .tree (progL [(Ps.nd 16 ⟨#[120]⟩ ⟨#[]⟩ 0 [(Ps.nd 17 ⟨#[103]⟩ ⟨#[]⟩ 0 [(Ps.nd 19 ⟨#[102]⟩ ⟨#[]⟩ 0 [(Ps.nd 14 ⟨#[121]⟩ ⟨#[]⟩ 0 []), (Ps.nd 7 ⟨#[]⟩ ⟨#[]⟩ 1 [])])])])]) from px4)).mono ?_
  rintro e w10 ⟨rfl, k10⟩
  replace HTB := Lib.hid (HTB.out.kept k10)
  replace Ha1 := Lib.hid (Ha1.out.kept k10)
  replace Ha2 := Lib.hid (Ha2.out.kept k10)
  replace Hb1 := Lib.hid (Hb1.out.kept k10)
  replace Ha3 := Lib.hid (Ha3.out.kept k10)
  replace Hb2 := Lib.hid (Hb2.out.kept k10)
  replace Ha4 := Lib.hid (Ha4.out.kept k10)
  replace Hb3 := Lib.hid (Hb3.out.kept k10)
  replace Ha5 := Lib.hid (Ha5.out.kept k10)
  replace Hb4 := Lib.hid (Hb4.out.kept k10)
  replace HKK := Lib.hid (HKK.out.trans k10)
  clear k10
  go_wp2_with fail
  refine (pnamed_c _ _).mono ?_
  rintro e w11 ⟨rfl, k11⟩
  replace HTB := Lib.hid (HTB.out.kept k11)
  replace HKK := Lib.hid (HKK.out.trans k11)
  have Hc1 := Lib.hid (show Mk w11 (Ps.nd 14 ⟨#[97]⟩ ⟨#[]⟩ 0 []) (.slice none 0 0) from ⟨nd_ok1 _ _ _ _ _ (by decide) (by decide) (by decide) (by decide), Ks.nil _⟩)
  clear k11
  go_wp2_with fail
  refine (pnamed_c _ _).mono ?_
  rintro e w12 ⟨rfl, k12⟩
  replace HTB := Lib.hid (HTB.out.kept k12)
  replace Hc1 := Lib.hid (Hc1.out.kept k12)
  replace HKK := Lib.hid (HKK.out.trans k12)
  have Hc2 := Lib.hid (show Mk w12 (Ps.nd 14 ⟨#[99]⟩ ⟨#[]⟩ 0 []) (.slice none 0 0) from ⟨nd_ok1 _ _ _ _ _ (by decide) (by decide) (by decide) (by decide), Ks.nil _⟩)
  clear k12
  go_wp2_with fail
  obtain ⟨w13, hw13⟩ : ∃ V, w12.alloc (.cells #[.int .i64 14, .string ⟨#[99]⟩, .string ⟨#[]⟩, .string ⟨#[]⟩, .int .i64 0, .slice none 0 0] nT) = V := ⟨_, rfl⟩
  have k13 : Kept w12 w13 := by rw [← hw13]; exact (Kept.refl _).alloc _
  have Hd1 := Lib.hid (show Ks w13 (.slice (some ⟨w12.heap.size, 0, none⟩) 1 1) [(Ps.nd 14 ⟨#[99]⟩ ⟨#[]⟩ 0 [])] by
    rw [← hw13]
    exact lit_kids [((Ps.nd 14 ⟨#[99]⟩ ⟨#[]⟩ 0 []), (.slice none 0 0))] rfl rfl rfl (by simp) (fun q hq => by
      simp only [List.mem_cons, List.not_mem_nil, or_false] at hq
      subst hq; exact Hc2.out))
  replace HTB := Lib.hid (HTB.out.kept k13)
  replace Hc1 := Lib.hid (Hc1.out.kept k13)
  replace Hc2 := Lib.hid (Hc2.out.kept k13)
  replace HKK := Lib.hid (HKK.out.trans k13)
  have HWw13 := Lib.hid hw13
  clear hw13 k13
  go_wp2_with (rw [HWw13.out])
  refine (ptyped_c _ _ _ _ _ _ _).mono ?_
  rintro e w14 ⟨rfl, k14⟩
  replace HTB := Lib.hid (HTB.out.kept k14)
  replace Hc1 := Lib.hid (Hc1.out.kept k14)
  replace Hc2 := Lib.hid (Hc2.out.kept k14)
  replace Hd1 := Lib.hid (Hd1.out.kept k14)
  replace HKK := Lib.hid (HKK.out.trans k14)
  have Hc3 := Lib.hid (show Mk w14 (Ps.nd 28 ⟨#[]⟩ ⟨#[63]⟩ 0 [(Ps.nd 14 ⟨#[99]⟩ ⟨#[]⟩ 0 [])]) (.slice (some ⟨w12.heap.size, 0, none⟩) 1 1) from ⟨nd_ok1 _ _ _ _ _ (by decide) (by decide) (by decide) (by decide), Hd1.out⟩)
  clear k14
  go_wp2_with fail
  obtain ⟨w15, hw15⟩ : ∃ V, w14.alloc (.cells #[.int .i64 14, .string ⟨#[97]⟩, .string ⟨#[]⟩, .string ⟨#[]⟩, .int .i64 0, .slice none 0 0, .int .i64 28, .string ⟨#[]⟩, .string ⟨#[63]⟩, .string ⟨#[]⟩, .int .i64 0, .slice (some ⟨w12.heap.size, 0, none⟩) 1 1] nT) = V := ⟨_, rfl⟩
  have k15 : Kept w14 w15 := by rw [← hw15]; exact (Kept.refl _).alloc _
  have Hd2 := Lib.hid (show Ks w15 (.slice (some ⟨w14.heap.size, 0, none⟩) 2 2) [(Ps.nd 14 ⟨#[97]⟩ ⟨#[]⟩ 0 []), (Ps.nd 28 ⟨#[]⟩ ⟨#[63]⟩ 0 [(Ps.nd 14 ⟨#[99]⟩ ⟨#[]⟩ 0 [])])] by
    rw [← hw15]
    exact lit_kids [((Ps.nd 14 ⟨#[97]⟩ ⟨#[]⟩ 0 []), (.slice none 0 0)), ((Ps.nd 28 ⟨#[]⟩ ⟨#[63]⟩ 0 [(Ps.nd 14 ⟨#[99]⟩ ⟨#[]⟩ 0 [])]), (.slice (some ⟨w12.heap.size, 0, none⟩) 1 1))] rfl rfl rfl (by simp) (fun q hq => by
      simp only [List.mem_cons, List.not_mem_nil, or_false] at hq
      rcases hq with rfl | rfl
      · exact Hc1.out
      · exact Hc3.out))
  replace HTB := Lib.hid (HTB.out.kept k15)
  replace Hc1 := Lib.hid (Hc1.out.kept k15)
  replace Hc2 := Lib.hid (Hc2.out.kept k15)
  replace Hd1 := Lib.hid (Hd1.out.kept k15)
  replace Hc3 := Lib.hid (Hc3.out.kept k15)
  replace HKK := Lib.hid (HKK.out.trans k15)
  have HWw15 := Lib.hid hw15
  clear hw15 k15
  go_wp2_with (rw [HWw15.out])
  refine (pnode_c _ _ _ _ _ _).mono ?_
  rintro e w16 ⟨rfl, k16⟩
  replace HTB := Lib.hid (HTB.out.kept k16)
  replace Hc1 := Lib.hid (Hc1.out.kept k16)
  replace Hc2 := Lib.hid (Hc2.out.kept k16)
  replace Hd1 := Lib.hid (Hd1.out.kept k16)
  replace Hc3 := Lib.hid (Hc3.out.kept k16)
  replace Hd2 := Lib.hid (Hd2.out.kept k16)
  replace HKK := Lib.hid (HKK.out.trans k16)
  have Hc4 := Lib.hid (show Mk w16 (Ps.nd 18 ⟨#[98]⟩ ⟨#[]⟩ 0 [(Ps.nd 14 ⟨#[97]⟩ ⟨#[]⟩ 0 []), (Ps.nd 28 ⟨#[]⟩ ⟨#[63]⟩ 0 [(Ps.nd 14 ⟨#[99]⟩ ⟨#[]⟩ 0 [])])]) (.slice (some ⟨w14.heap.size, 0, none⟩) 2 2) from ⟨nd_ok1 _ _ _ _ _ (by decide) (by decide) (by decide) (by decide), Hd2.out⟩)
  clear k16
  go_wp2_with fail
  obtain ⟨w17, hw17⟩ : ∃ V, w16.alloc (.cells #[.int .i64 18, .string ⟨#[98]⟩, .string ⟨#[]⟩, .string ⟨#[]⟩, .int .i64 0, .slice (some ⟨w14.heap.size, 0, none⟩) 2 2] nT) = V := ⟨_, rfl⟩
  have k17 : Kept w16 w17 := by rw [← hw17]; exact (Kept.refl _).alloc _
  have Hd3 := Lib.hid (show Ks w17 (.slice (some ⟨w16.heap.size, 0, none⟩) 1 1) [(Ps.nd 18 ⟨#[98]⟩ ⟨#[]⟩ 0 [(Ps.nd 14 ⟨#[97]⟩ ⟨#[]⟩ 0 []), (Ps.nd 28 ⟨#[]⟩ ⟨#[63]⟩ 0 [(Ps.nd 14 ⟨#[99]⟩ ⟨#[]⟩ 0 [])])])] by
    rw [← hw17]
    exact lit_kids [((Ps.nd 18 ⟨#[98]⟩ ⟨#[]⟩ 0 [(Ps.nd 14 ⟨#[97]⟩ ⟨#[]⟩ 0 []), (Ps.nd 28 ⟨#[]⟩ ⟨#[63]⟩ 0 [(Ps.nd 14 ⟨#[99]⟩ ⟨#[]⟩ 0 [])])]), (.slice (some ⟨w14.heap.size, 0, none⟩) 2 2))] rfl rfl rfl (by simp) (fun q hq => by
      simp only [List.mem_cons, List.not_mem_nil, or_false] at hq
      subst hq; exact Hc4.out))
  replace HTB := Lib.hid (HTB.out.kept k17)
  replace Hc1 := Lib.hid (Hc1.out.kept k17)
  replace Hc2 := Lib.hid (Hc2.out.kept k17)
  replace Hd1 := Lib.hid (Hd1.out.kept k17)
  replace Hc3 := Lib.hid (Hc3.out.kept k17)
  replace Hd2 := Lib.hid (Hd2.out.kept k17)
  replace Hc4 := Lib.hid (Hc4.out.kept k17)
  replace HKK := Lib.hid (HKK.out.trans k17)
  have HWw17 := Lib.hid hw17
  clear hw17 k17
  go_wp2_with (rw [HWw17.out])
  refine (does_c ⟨#[109, 97, 105, 110, 123, 97, 46, 98, 61, 40, 99, 58, 63, 41, 125]⟩ (by decide) [(Ps.nd 18 ⟨#[98]⟩ ⟨#[]⟩ 0 [(Ps.nd 14 ⟨#[97]⟩ ⟨#[]⟩ 0 []), (Ps.nd 28 ⟨#[]⟩ ⟨#[63]⟩ 0 [(Ps.nd 14 ⟨#[99]⟩ ⟨#[]⟩ 0 [])])])] _ _ HTB.out Hd3.out (show parseP (⟨#[109, 97, 105, 110, 123, 97, 46, 98, 61, 40, 99, 58, 63, 41, 125]⟩ : ByteArray).data.toList = .tree (progL [(Ps.nd 18 ⟨#[98]⟩ ⟨#[]⟩ 0 [(Ps.nd 14 ⟨#[97]⟩ ⟨#[]⟩ 0 []), (Ps.nd 28 ⟨#[]⟩ ⟨#[63]⟩ 0 [(Ps.nd 14 ⟨#[99]⟩ ⟨#[]⟩ 0 [])])])]) from px5)).mono ?_
  rintro e w18 ⟨rfl, k18⟩
  replace HTB := Lib.hid (HTB.out.kept k18)
  replace Hc1 := Lib.hid (Hc1.out.kept k18)
  replace Hc2 := Lib.hid (Hc2.out.kept k18)
  replace Hd1 := Lib.hid (Hd1.out.kept k18)
  replace Hc3 := Lib.hid (Hc3.out.kept k18)
  replace Hd2 := Lib.hid (Hd2.out.kept k18)
  replace Hc4 := Lib.hid (Hc4.out.kept k18)
  replace Hd3 := Lib.hid (Hd3.out.kept k18)
  replace HKK := Lib.hid (HKK.out.trans k18)
  clear k18
  go_wp2_with fail
  refine (pnumber_c _ _).mono ?_
  rintro e w19 ⟨rfl, k19⟩
  replace HTB := Lib.hid (HTB.out.kept k19)
  replace HKK := Lib.hid (HKK.out.trans k19)
  have He1 := Lib.hid (show Mk w19 (Ps.nd 7 ⟨#[]⟩ ⟨#[]⟩ 1 []) (.slice none 0 0) from ⟨nd_ok1 _ _ _ _ _ (by decide) (by decide) (by decide) (by decide), Ks.nil _⟩)
  clear k19
  go_wp2_with fail
  obtain ⟨w20, hw20⟩ : ∃ V, w19.alloc (.cells #[.int .i64 7, .string ⟨#[]⟩, .string ⟨#[]⟩, .string ⟨#[]⟩, .int .i64 1, .slice none 0 0] nT) = V := ⟨_, rfl⟩
  have k20 : Kept w19 w20 := by rw [← hw20]; exact (Kept.refl _).alloc _
  have Hf1 := Lib.hid (show Ks w20 (.slice (some ⟨w19.heap.size, 0, none⟩) 1 1) [(Ps.nd 7 ⟨#[]⟩ ⟨#[]⟩ 1 [])] by
    rw [← hw20]
    exact lit_kids [((Ps.nd 7 ⟨#[]⟩ ⟨#[]⟩ 1 []), (.slice none 0 0))] rfl rfl rfl (by simp) (fun q hq => by
      simp only [List.mem_cons, List.not_mem_nil, or_false] at hq
      subst hq; exact He1.out))
  replace HTB := Lib.hid (HTB.out.kept k20)
  replace He1 := Lib.hid (He1.out.kept k20)
  replace HKK := Lib.hid (HKK.out.trans k20)
  have HWw20 := Lib.hid hw20
  clear hw20 k20
  go_wp2_with (rw [HWw20.out])
  refine (pnode_c _ _ _ _ _ _).mono ?_
  rintro e w21 ⟨rfl, k21⟩
  replace HTB := Lib.hid (HTB.out.kept k21)
  replace He1 := Lib.hid (He1.out.kept k21)
  replace Hf1 := Lib.hid (Hf1.out.kept k21)
  replace HKK := Lib.hid (HKK.out.trans k21)
  have He2 := Lib.hid (show Mk w21 (Ps.nd 24 ⟨#[45]⟩ ⟨#[]⟩ 0 [(Ps.nd 7 ⟨#[]⟩ ⟨#[]⟩ 1 [])]) (.slice (some ⟨w19.heap.size, 0, none⟩) 1 1) from ⟨nd_ok1 _ _ _ _ _ (by decide) (by decide) (by decide) (by decide), Hf1.out⟩)
  clear k21
  go_wp2_with fail
  refine (pnode_c _ _ _ _ _ _).mono ?_
  rintro e w22 ⟨rfl, k22⟩
  replace HTB := Lib.hid (HTB.out.kept k22)
  replace He1 := Lib.hid (He1.out.kept k22)
  replace Hf1 := Lib.hid (Hf1.out.kept k22)
  replace He2 := Lib.hid (He2.out.kept k22)
  replace HKK := Lib.hid (HKK.out.trans k22)
  have He3 := Lib.hid (show Mk w22 (Ps.nd 11 ⟨#[]⟩ ⟨#[]⟩ 0 []) (.slice none 0 0) from ⟨nd_ok1 _ _ _ _ _ (by decide) (by decide) (by decide) (by decide), Ks.nil _⟩)
  clear k22
  go_wp2_with fail
  obtain ⟨w23, hw23⟩ : ∃ V, w22.alloc (.cells #[.int .i64 24, .string ⟨#[45]⟩, .string ⟨#[]⟩, .string ⟨#[]⟩, .int .i64 0, .slice (some ⟨w19.heap.size, 0, none⟩) 1 1, .int .i64 11, .string ⟨#[]⟩, .string ⟨#[]⟩, .string ⟨#[]⟩, .int .i64 0, .slice none 0 0] nT) = V := ⟨_, rfl⟩
  have k23 : Kept w22 w23 := by rw [← hw23]; exact (Kept.refl _).alloc _
  have Hf2 := Lib.hid (show Ks w23 (.slice (some ⟨w22.heap.size, 0, none⟩) 2 2) [(Ps.nd 24 ⟨#[45]⟩ ⟨#[]⟩ 0 [(Ps.nd 7 ⟨#[]⟩ ⟨#[]⟩ 1 [])]), (Ps.nd 11 ⟨#[]⟩ ⟨#[]⟩ 0 [])] by
    rw [← hw23]
    exact lit_kids [((Ps.nd 24 ⟨#[45]⟩ ⟨#[]⟩ 0 [(Ps.nd 7 ⟨#[]⟩ ⟨#[]⟩ 1 [])]), (.slice (some ⟨w19.heap.size, 0, none⟩) 1 1)), ((Ps.nd 11 ⟨#[]⟩ ⟨#[]⟩ 0 []), (.slice none 0 0))] rfl rfl rfl (by simp) (fun q hq => by
      simp only [List.mem_cons, List.not_mem_nil, or_false] at hq
      rcases hq with rfl | rfl
      · exact He2.out
      · exact He3.out))
  replace HTB := Lib.hid (HTB.out.kept k23)
  replace He1 := Lib.hid (He1.out.kept k23)
  replace Hf1 := Lib.hid (Hf1.out.kept k23)
  replace He2 := Lib.hid (He2.out.kept k23)
  replace He3 := Lib.hid (He3.out.kept k23)
  replace HKK := Lib.hid (HKK.out.trans k23)
  have HWw23 := Lib.hid hw23
  clear hw23 k23
  go_wp2_with (rw [HWw23.out])
  refine (pnode_c _ _ _ _ _ _).mono ?_
  rintro e w24 ⟨rfl, k24⟩
  replace HTB := Lib.hid (HTB.out.kept k24)
  replace He1 := Lib.hid (He1.out.kept k24)
  replace Hf1 := Lib.hid (Hf1.out.kept k24)
  replace He2 := Lib.hid (He2.out.kept k24)
  replace He3 := Lib.hid (He3.out.kept k24)
  replace Hf2 := Lib.hid (Hf2.out.kept k24)
  replace HKK := Lib.hid (HKK.out.trans k24)
  have He4 := Lib.hid (show Mk w24 (Ps.nd 25 ⟨#[45]⟩ ⟨#[]⟩ 0 [(Ps.nd 24 ⟨#[45]⟩ ⟨#[]⟩ 0 [(Ps.nd 7 ⟨#[]⟩ ⟨#[]⟩ 1 [])]), (Ps.nd 11 ⟨#[]⟩ ⟨#[]⟩ 0 [])]) (.slice (some ⟨w22.heap.size, 0, none⟩) 2 2) from ⟨nd_ok1 _ _ _ _ _ (by decide) (by decide) (by decide) (by decide), Hf2.out⟩)
  clear k24
  go_wp2_with fail
  obtain ⟨w25, hw25⟩ : ∃ V, w24.alloc (.cells #[.int .i64 25, .string ⟨#[45]⟩, .string ⟨#[]⟩, .string ⟨#[]⟩, .int .i64 0, .slice (some ⟨w22.heap.size, 0, none⟩) 2 2] nT) = V := ⟨_, rfl⟩
  have k25 : Kept w24 w25 := by rw [← hw25]; exact (Kept.refl _).alloc _
  have Hf3 := Lib.hid (show Ks w25 (.slice (some ⟨w24.heap.size, 0, none⟩) 1 1) [(Ps.nd 25 ⟨#[45]⟩ ⟨#[]⟩ 0 [(Ps.nd 24 ⟨#[45]⟩ ⟨#[]⟩ 0 [(Ps.nd 7 ⟨#[]⟩ ⟨#[]⟩ 1 [])]), (Ps.nd 11 ⟨#[]⟩ ⟨#[]⟩ 0 [])])] by
    rw [← hw25]
    exact lit_kids [((Ps.nd 25 ⟨#[45]⟩ ⟨#[]⟩ 0 [(Ps.nd 24 ⟨#[45]⟩ ⟨#[]⟩ 0 [(Ps.nd 7 ⟨#[]⟩ ⟨#[]⟩ 1 [])]), (Ps.nd 11 ⟨#[]⟩ ⟨#[]⟩ 0 [])]), (.slice (some ⟨w22.heap.size, 0, none⟩) 2 2))] rfl rfl rfl (by simp) (fun q hq => by
      simp only [List.mem_cons, List.not_mem_nil, or_false] at hq
      subst hq; exact He4.out))
  replace HTB := Lib.hid (HTB.out.kept k25)
  replace He1 := Lib.hid (He1.out.kept k25)
  replace Hf1 := Lib.hid (Hf1.out.kept k25)
  replace He2 := Lib.hid (He2.out.kept k25)
  replace He3 := Lib.hid (He3.out.kept k25)
  replace Hf2 := Lib.hid (Hf2.out.kept k25)
  replace He4 := Lib.hid (He4.out.kept k25)
  replace HKK := Lib.hid (HKK.out.trans k25)
  have HWw25 := Lib.hid hw25
  clear hw25 k25
  go_wp2_with (rw [HWw25.out])
  refine (does_c ⟨#[109, 97, 105, 110, 123, 45, 49, 45, 40, 41, 125]⟩ (by decide) [(Ps.nd 25 ⟨#[45]⟩ ⟨#[]⟩ 0 [(Ps.nd 24 ⟨#[45]⟩ ⟨#[]⟩ 0 [(Ps.nd 7 ⟨#[]⟩ ⟨#[]⟩ 1 [])]), (Ps.nd 11 ⟨#[]⟩ ⟨#[]⟩ 0 [])])] _ _ HTB.out Hf3.out (show parseP (⟨#[109, 97, 105, 110, 123, 45, 49, 45, 40, 41, 125]⟩ : ByteArray).data.toList = .tree (progL [(Ps.nd 25 ⟨#[45]⟩ ⟨#[]⟩ 0 [(Ps.nd 24 ⟨#[45]⟩ ⟨#[]⟩ 0 [(Ps.nd 7 ⟨#[]⟩ ⟨#[]⟩ 1 [])]), (Ps.nd 11 ⟨#[]⟩ ⟨#[]⟩ 0 [])])]) from px6)).mono ?_
  rintro e w26 ⟨rfl, k26⟩
  replace HTB := Lib.hid (HTB.out.kept k26)
  replace He1 := Lib.hid (He1.out.kept k26)
  replace Hf1 := Lib.hid (Hf1.out.kept k26)
  replace He2 := Lib.hid (He2.out.kept k26)
  replace He3 := Lib.hid (He3.out.kept k26)
  replace Hf2 := Lib.hid (Hf2.out.kept k26)
  replace He4 := Lib.hid (He4.out.kept k26)
  replace Hf3 := Lib.hid (Hf3.out.kept k26)
  replace HKK := Lib.hid (HKK.out.trans k26)
  clear k26
  go_wp2_with fail
  refine (ptyped_c _ _ _ _ _ _ _).mono ?_
  rintro e w27 ⟨rfl, k27⟩
  replace HTB := Lib.hid (HTB.out.kept k27)
  replace HKK := Lib.hid (HKK.out.trans k27)
  have Hp1 := Lib.hid (show Mk w27 (Ps.nd 5 ⟨#[97]⟩ ⟨#[105, 110, 116]⟩ 0 []) (.slice none 0 0) from ⟨nd_ok1 _ _ _ _ _ (by decide) (by decide) (by decide) (by decide), Ks.nil _⟩)
  clear k27
  go_wp2_with fail
  refine (pnode_c _ _ _ _ _ _).mono ?_
  rintro e w28 ⟨rfl, k28⟩
  replace HTB := Lib.hid (HTB.out.kept k28)
  replace Hp1 := Lib.hid (Hp1.out.kept k28)
  replace HKK := Lib.hid (HKK.out.trans k28)
  have Hp2 := Lib.hid (show Mk w28 (Ps.nd 13 ⟨#[]⟩ ⟨#[]⟩ 0 []) (.slice none 0 0) from ⟨nd_ok1 _ _ _ _ _ (by decide) (by decide) (by decide) (by decide), Ks.nil _⟩)
  clear k28
  go_wp2_with fail
  obtain ⟨w29, hw29⟩ : ∃ V, w28.alloc (.cells #[.int .i64 13, .string ⟨#[]⟩, .string ⟨#[]⟩, .string ⟨#[]⟩, .int .i64 0, .slice none 0 0] nT) = V := ⟨_, rfl⟩
  have k29 : Kept w28 w29 := by rw [← hw29]; exact (Kept.refl _).alloc _
  have Hq1 := Lib.hid (show Ks w29 (.slice (some ⟨w28.heap.size, 0, none⟩) 1 1) [(Ps.nd 13 ⟨#[]⟩ ⟨#[]⟩ 0 [])] by
    rw [← hw29]
    exact lit_kids [((Ps.nd 13 ⟨#[]⟩ ⟨#[]⟩ 0 []), (.slice none 0 0))] rfl rfl rfl (by simp) (fun q hq => by
      simp only [List.mem_cons, List.not_mem_nil, or_false] at hq
      subst hq; exact Hp2.out))
  replace HTB := Lib.hid (HTB.out.kept k29)
  replace Hp1 := Lib.hid (Hp1.out.kept k29)
  replace Hp2 := Lib.hid (Hp2.out.kept k29)
  replace HKK := Lib.hid (HKK.out.trans k29)
  have HWw29 := Lib.hid hw29
  clear hw29 k29
  go_wp2_with (rw [HWw29.out])
  refine (pnode_c _ _ _ _ _ _).mono ?_
  rintro e w30 ⟨rfl, k30⟩
  replace HTB := Lib.hid (HTB.out.kept k30)
  replace Hp1 := Lib.hid (Hp1.out.kept k30)
  replace Hp2 := Lib.hid (Hp2.out.kept k30)
  replace Hq1 := Lib.hid (Hq1.out.kept k30)
  replace HKK := Lib.hid (HKK.out.trans k30)
  have Hp3 := Lib.hid (show Mk w30 (Ps.nd 6 ⟨#[]⟩ ⟨#[]⟩ 0 [(Ps.nd 13 ⟨#[]⟩ ⟨#[]⟩ 0 [])]) (.slice (some ⟨w28.heap.size, 0, none⟩) 1 1) from ⟨nd_ok1 _ _ _ _ _ (by decide) (by decide) (by decide) (by decide), Hq1.out⟩)
  clear k30
  go_wp2_with fail
  obtain ⟨w31, hw31⟩ : ∃ V, w30.alloc (.cells #[.int .i64 5, .string ⟨#[97]⟩, .string ⟨#[105, 110, 116]⟩, .string ⟨#[]⟩, .int .i64 0, .slice none 0 0, .int .i64 6, .string ⟨#[]⟩, .string ⟨#[]⟩, .string ⟨#[]⟩, .int .i64 0, .slice (some ⟨w28.heap.size, 0, none⟩) 1 1] nT) = V := ⟨_, rfl⟩
  have k31 : Kept w30 w31 := by rw [← hw31]; exact (Kept.refl _).alloc _
  have Hq2 := Lib.hid (show Ks w31 (.slice (some ⟨w30.heap.size, 0, none⟩) 2 2) [(Ps.nd 5 ⟨#[97]⟩ ⟨#[105, 110, 116]⟩ 0 []), (Ps.nd 6 ⟨#[]⟩ ⟨#[]⟩ 0 [(Ps.nd 13 ⟨#[]⟩ ⟨#[]⟩ 0 [])])] by
    rw [← hw31]
    exact lit_kids [((Ps.nd 5 ⟨#[97]⟩ ⟨#[105, 110, 116]⟩ 0 []), (.slice none 0 0)), ((Ps.nd 6 ⟨#[]⟩ ⟨#[]⟩ 0 [(Ps.nd 13 ⟨#[]⟩ ⟨#[]⟩ 0 [])]), (.slice (some ⟨w28.heap.size, 0, none⟩) 1 1))] rfl rfl rfl (by simp) (fun q hq => by
      simp only [List.mem_cons, List.not_mem_nil, or_false] at hq
      rcases hq with rfl | rfl
      · exact Hp1.out
      · exact Hp3.out))
  replace HTB := Lib.hid (HTB.out.kept k31)
  replace Hp1 := Lib.hid (Hp1.out.kept k31)
  replace Hp2 := Lib.hid (Hp2.out.kept k31)
  replace Hq1 := Lib.hid (Hq1.out.kept k31)
  replace Hp3 := Lib.hid (Hp3.out.kept k31)
  replace HKK := Lib.hid (HKK.out.trans k31)
  have HWw31 := Lib.hid hw31
  clear hw31 k31
  go_wp2_with (rw [HWw31.out])
  refine (ptyped_c _ _ _ _ _ _ _).mono ?_
  rintro e w32 ⟨rfl, k32⟩
  replace HTB := Lib.hid (HTB.out.kept k32)
  replace Hp1 := Lib.hid (Hp1.out.kept k32)
  replace Hp2 := Lib.hid (Hp2.out.kept k32)
  replace Hq1 := Lib.hid (Hq1.out.kept k32)
  replace Hp3 := Lib.hid (Hp3.out.kept k32)
  replace Hq2 := Lib.hid (Hq2.out.kept k32)
  replace HKK := Lib.hid (HKK.out.trans k32)
  have Hp4 := Lib.hid (show Mk w32 (Ps.nd 4 ⟨#[102]⟩ ⟨#[65]⟩ 0 [(Ps.nd 5 ⟨#[97]⟩ ⟨#[105, 110, 116]⟩ 0 []), (Ps.nd 6 ⟨#[]⟩ ⟨#[]⟩ 0 [(Ps.nd 13 ⟨#[]⟩ ⟨#[]⟩ 0 [])])]) (.slice (some ⟨w30.heap.size, 0, none⟩) 2 2) from ⟨nd_ok1 _ _ _ _ _ (by decide) (by decide) (by decide) (by decide), Hq2.out⟩)
  clear k32
  obtain ⟨w33, hw33⟩ : ∃ V, w32.alloc (.cells #[.int .i64 4, .string ⟨#[102]⟩, .string ⟨#[65]⟩, .string ⟨#[]⟩, .int .i64 0, .slice (some ⟨w30.heap.size, 0, none⟩) 2 2] nT) = V := ⟨_, rfl⟩
  have k33 : Kept w32 w33 := by rw [← hw33]; exact (Kept.refl _).alloc _
  have HBX := Lib.hid (show Blk w33 w32.heap.size nT #[.int .i64 4, .string ⟨#[102]⟩, .string ⟨#[65]⟩, .string ⟨#[]⟩, .int .i64 0, .slice (some ⟨w30.heap.size, 0, none⟩) 2 2] by rw [← hw33]; exact Blk.new _ _ _)
  replace HTB := Lib.hid (HTB.out.kept k33)
  replace Hp1 := Lib.hid (Hp1.out.kept k33)
  replace Hp2 := Lib.hid (Hp2.out.kept k33)
  replace Hq1 := Lib.hid (Hq1.out.kept k33)
  replace Hp3 := Lib.hid (Hp3.out.kept k33)
  replace Hq2 := Lib.hid (Hq2.out.kept k33)
  replace Hp4 := Lib.hid (Hp4.out.kept k33)
  replace HKK := Lib.hid (HKK.out.trans k33)
  have HWw33 := Lib.hid hw33
  clear hw33 k33
  go_wp2_with (rw [HWw33.out])
  obtain ⟨D0, hD0⟩ : ∃ D, w33.drew = D := ⟨_, rfl⟩
  have kd : Kept w33 D0 := by rw [← hD0]; exact (Kept.refl _).drew
  replace HTB := Lib.hid (HTB.out.kept kd)
  replace Hp1 := Lib.hid (Hp1.out.kept kd)
  replace Hp2 := Lib.hid (Hp2.out.kept kd)
  replace Hq1 := Lib.hid (Hq1.out.kept kd)
  replace Hp3 := Lib.hid (Hp3.out.kept kd)
  replace Hq2 := Lib.hid (Hq2.out.kept kd)
  replace Hp4 := Lib.hid (Hp4.out.kept kd)
  replace HBX := Lib.hid (HBX.out.kept kd)
  replace HKK := Lib.hid (HKK.out.trans kd)
  have HD0 := Lib.hid hD0
  clear kd hD0
  have hs0 := (nd_six HBX.out).1
  rw [← HD0.out] at hs0
  refine wp_region_held_drew (S := (fun W => W.cell? ⟨w32.heap.size, 0, none⟩ = some (.int .i64 4) ∧ W.cell? ⟨w32.heap.size, 1, none⟩ = some (.string ⟨#[102]⟩) ∧ W.cell? ⟨w32.heap.size, 2, none⟩ = some (.string ⟨#[65]⟩) ∧ W.cell? ⟨w32.heap.size, 3, none⟩ = some (.string ⟨#[]⟩) ∧ W.cell? ⟨w32.heap.size, 4, none⟩ = some (.int .i64 0) ∧ W.cell? ⟨w32.heap.size, 5, none⟩ = some (.slice (some ⟨w30.heap.size, 0, none⟩) 2 2))) (by kernel_rfl) hs0 (fun hHeld0 => ?_)
  rw [HD0.out] at hHeld0 ⊢
  clear hs0
  refine wpAnyH_take (i := 1) (v := ?_) rfl (by kernel_rfl) (by kernel_rfl) (by kernel_rfl) (fun _ _ _ h => h) (Or.inl ⟨by kernel_rfl, ?_⟩) (by assumption) ?_
  rotate_left
  · intro w hSw; (try dsimp only at hSw); go_simp; (try with_reducible rfl)
  (try simp only [Act.put, List.getElem_toArray, List.getElem_cons_zero, List.getElem_cons_succ, List.setIfInBounds_toArray, List.set_cons_zero, List.set_cons_succ])
  refine wpAnyH_ready (rs := [0]) (by kernel_rfl) (by simp) ?_
  refine AllReadyH.cons rfl (fun K hK => ?_) AllReadyH.nil
  go_simp
  refine (ptyped_c _ _ _ _ _ _ _).mono ?_
  rintro e w34 ⟨rfl, k34⟩
  replace HTB := Lib.hid (HTB.out.kept k34)
  replace Hp1 := Lib.hid (Hp1.out.kept k34)
  replace Hp2 := Lib.hid (Hp2.out.kept k34)
  replace Hq1 := Lib.hid (Hq1.out.kept k34)
  replace Hp3 := Lib.hid (Hp3.out.kept k34)
  replace Hq2 := Lib.hid (Hq2.out.kept k34)
  replace Hp4 := Lib.hid (Hp4.out.kept k34)
  replace HBX := Lib.hid (HBX.out.kept k34)
  replace HKK := Lib.hid (HKK.out.trans k34)
  have Hp5 := Lib.hid (show Mk w34 (Ps.nd 3 ⟨#[120]⟩ ⟨#[63]⟩ 0 []) (.slice none 0 0) from ⟨nd_ok1 _ _ _ _ _ (by decide) (by decide) (by decide) (by decide), Ks.nil _⟩)
  refine hK.out _ _ ((nd_six HBX.out).1) (fun hHeld34 => ?_)
  clear hK K
  (try simp only [Act.put, List.getElem_toArray, List.getElem_cons_zero, List.getElem_cons_succ, List.setIfInBounds_toArray, List.set_cons_zero, List.set_cons_succ])
  clear k34 hHeld0
  refine wpAnyH_ready (rs := [2]) (by kernel_rfl) (by simp) ?_
  refine AllReadyH.cons rfl (fun K hK => ?_) AllReadyH.nil
  obtain ⟨w35, hw35⟩ : ∃ V, w34.alloc (.cells #[.int .i64 3, .string ⟨#[120]⟩, .string ⟨#[63]⟩, .string ⟨#[]⟩, .int .i64 0, .slice none 0 0, .int .i64 4, .string ⟨#[102]⟩, .string ⟨#[65]⟩, .string ⟨#[]⟩, .int .i64 0, .slice (some ⟨w30.heap.size, 0, none⟩) 2 2] nT) = V := ⟨_, rfl⟩
  have k35 : Kept w34 w35 := by rw [← hw35]; exact (Kept.refl _).alloc _
  have Hq3 := Lib.hid (show Ks w35 (.slice (some ⟨w34.heap.size, 0, none⟩) 2 2) [(Ps.nd 3 ⟨#[120]⟩ ⟨#[63]⟩ 0 []), (Ps.nd 4 ⟨#[102]⟩ ⟨#[65]⟩ 0 [(Ps.nd 5 ⟨#[97]⟩ ⟨#[105, 110, 116]⟩ 0 []), (Ps.nd 6 ⟨#[]⟩ ⟨#[]⟩ 0 [(Ps.nd 13 ⟨#[]⟩ ⟨#[]⟩ 0 [])])])] by
    rw [← hw35]
    exact lit_kids [((Ps.nd 3 ⟨#[120]⟩ ⟨#[63]⟩ 0 []), (.slice none 0 0)), ((Ps.nd 4 ⟨#[102]⟩ ⟨#[65]⟩ 0 [(Ps.nd 5 ⟨#[97]⟩ ⟨#[105, 110, 116]⟩ 0 []), (Ps.nd 6 ⟨#[]⟩ ⟨#[]⟩ 0 [(Ps.nd 13 ⟨#[]⟩ ⟨#[]⟩ 0 [])])]), (.slice (some ⟨w30.heap.size, 0, none⟩) 2 2))] rfl rfl rfl (by simp) (fun q hq => by
      simp only [List.mem_cons, List.not_mem_nil, or_false] at hq
      rcases hq with rfl | rfl
      · exact Hp5.out
      · exact Hp4.out))
  replace HTB := Lib.hid (HTB.out.kept k35)
  replace Hp1 := Lib.hid (Hp1.out.kept k35)
  replace Hp2 := Lib.hid (Hp2.out.kept k35)
  replace Hq1 := Lib.hid (Hq1.out.kept k35)
  replace Hp3 := Lib.hid (Hp3.out.kept k35)
  replace Hq2 := Lib.hid (Hq2.out.kept k35)
  replace Hp4 := Lib.hid (Hp4.out.kept k35)
  replace HBX := Lib.hid (HBX.out.kept k35)
  replace Hp5 := Lib.hid (Hp5.out.kept k35)
  replace HKK := Lib.hid (HKK.out.trans k35)
  have HWw35 := Lib.hid hw35
  clear hw35 k35
  go_simp
  rw [HWw35.out]
  refine hK.out _ _ ((nd_six HBX.out).1) (fun hHeld35 => ?_)
  clear hK K
  (try simp only [Act.put, List.getElem_toArray, List.getElem_cons_zero, List.getElem_cons_succ, List.setIfInBounds_toArray, List.set_cons_zero, List.set_cons_succ])
  clear hHeld34
  refine wpAnyH_ready (rs := [3]) (by kernel_rfl) (by simp) ?_
  refine AllReadyH.cons rfl (fun K hK => ?_) AllReadyH.nil
  go_simp
  refine (ptyped_c _ _ _ _ _ _ _).mono ?_
  rintro e w36 ⟨rfl, k36⟩
  replace HTB := Lib.hid (HTB.out.kept k36)
  replace Hp1 := Lib.hid (Hp1.out.kept k36)
  replace Hp2 := Lib.hid (Hp2.out.kept k36)
  replace Hq1 := Lib.hid (Hq1.out.kept k36)
  replace Hp3 := Lib.hid (Hp3.out.kept k36)
  replace Hq2 := Lib.hid (Hq2.out.kept k36)
  replace Hp4 := Lib.hid (Hp4.out.kept k36)
  replace HBX := Lib.hid (HBX.out.kept k36)
  replace Hp5 := Lib.hid (Hp5.out.kept k36)
  replace Hq3 := Lib.hid (Hq3.out.kept k36)
  replace HKK := Lib.hid (HKK.out.trans k36)
  have Hp6 := Lib.hid (show Mk w36 (Ps.nd 2 ⟨#[65]⟩ ⟨#[66]⟩ 0 [(Ps.nd 3 ⟨#[120]⟩ ⟨#[63]⟩ 0 []), (Ps.nd 4 ⟨#[102]⟩ ⟨#[65]⟩ 0 [(Ps.nd 5 ⟨#[97]⟩ ⟨#[105, 110, 116]⟩ 0 []), (Ps.nd 6 ⟨#[]⟩ ⟨#[]⟩ 0 [(Ps.nd 13 ⟨#[]⟩ ⟨#[]⟩ 0 [])])])]) (.slice (some ⟨w34.heap.size, 0, none⟩) 2 2) from ⟨nd_ok1 _ _ _ _ _ (by decide) (by decide) (by decide) (by decide), Hq3.out⟩)
  refine hK.out _ _ ((nd_six HBX.out).1) (fun hHeld36 => ?_)
  clear hK K
  (try simp only [Act.put, List.getElem_toArray, List.getElem_cons_zero, List.getElem_cons_succ, List.setIfInBounds_toArray, List.set_cons_zero, List.set_cons_succ])
  clear k36 hHeld35
  refine wpAnyH_ready (rs := [4]) (by kernel_rfl) (by simp) ?_
  refine AllReadyH.cons rfl (fun K hK => ?_) AllReadyH.nil
  go_simp
  refine (pnode_c _ _ _ _ _ _).mono ?_
  rintro e w37 ⟨rfl, k37⟩
  replace HTB := Lib.hid (HTB.out.kept k37)
  replace Hp1 := Lib.hid (Hp1.out.kept k37)
  replace Hp2 := Lib.hid (Hp2.out.kept k37)
  replace Hq1 := Lib.hid (Hq1.out.kept k37)
  replace Hp3 := Lib.hid (Hp3.out.kept k37)
  replace Hq2 := Lib.hid (Hq2.out.kept k37)
  replace Hp4 := Lib.hid (Hp4.out.kept k37)
  replace HBX := Lib.hid (HBX.out.kept k37)
  replace Hp5 := Lib.hid (Hp5.out.kept k37)
  replace Hq3 := Lib.hid (Hq3.out.kept k37)
  replace Hp6 := Lib.hid (Hp6.out.kept k37)
  replace HKK := Lib.hid (HKK.out.trans k37)
  have Hp7 := Lib.hid (show Mk w37 (Ps.nd 6 ⟨#[]⟩ ⟨#[]⟩ 0 []) (.slice none 0 0) from ⟨nd_ok1 _ _ _ _ _ (by decide) (by decide) (by decide) (by decide), Ks.nil _⟩)
  refine hK.out _ _ ((nd_six HBX.out).1) (fun hHeld37 => ?_)
  clear hK K
  (try simp only [Act.put, List.getElem_toArray, List.getElem_cons_zero, List.getElem_cons_succ, List.setIfInBounds_toArray, List.set_cons_zero, List.set_cons_succ])
  clear k37 hHeld36
  refine wpAnyH_ready (rs := [5]) (by kernel_rfl) (by simp) ?_
  refine AllReadyH.cons rfl (fun K hK => ?_) AllReadyH.nil
  obtain ⟨w38, hw38⟩ : ∃ V, w37.alloc (.cells #[.int .i64 2, .string ⟨#[65]⟩, .string ⟨#[66]⟩, .string ⟨#[]⟩, .int .i64 0, .slice (some ⟨w34.heap.size, 0, none⟩) 2 2, .int .i64 6, .string ⟨#[]⟩, .string ⟨#[]⟩, .string ⟨#[]⟩, .int .i64 0, .slice none 0 0] nT) = V := ⟨_, rfl⟩
  have k38 : Kept w37 w38 := by rw [← hw38]; exact (Kept.refl _).alloc _
  have Hq4 := Lib.hid (show Ks w38 (.slice (some ⟨w37.heap.size, 0, none⟩) 2 2) [(Ps.nd 2 ⟨#[65]⟩ ⟨#[66]⟩ 0 [(Ps.nd 3 ⟨#[120]⟩ ⟨#[63]⟩ 0 []), (Ps.nd 4 ⟨#[102]⟩ ⟨#[65]⟩ 0 [(Ps.nd 5 ⟨#[97]⟩ ⟨#[105, 110, 116]⟩ 0 []), (Ps.nd 6 ⟨#[]⟩ ⟨#[]⟩ 0 [(Ps.nd 13 ⟨#[]⟩ ⟨#[]⟩ 0 [])])])]), (Ps.nd 6 ⟨#[]⟩ ⟨#[]⟩ 0 [])] by
    rw [← hw38]
    exact lit_kids [((Ps.nd 2 ⟨#[65]⟩ ⟨#[66]⟩ 0 [(Ps.nd 3 ⟨#[120]⟩ ⟨#[63]⟩ 0 []), (Ps.nd 4 ⟨#[102]⟩ ⟨#[65]⟩ 0 [(Ps.nd 5 ⟨#[97]⟩ ⟨#[105, 110, 116]⟩ 0 []), (Ps.nd 6 ⟨#[]⟩ ⟨#[]⟩ 0 [(Ps.nd 13 ⟨#[]⟩ ⟨#[]⟩ 0 [])])])]), (.slice (some ⟨w34.heap.size, 0, none⟩) 2 2)), ((Ps.nd 6 ⟨#[]⟩ ⟨#[]⟩ 0 []), (.slice none 0 0))] rfl rfl rfl (by simp) (fun q hq => by
      simp only [List.mem_cons, List.not_mem_nil, or_false] at hq
      rcases hq with rfl | rfl
      · exact Hp6.out
      · exact Hp7.out))
  replace HTB := Lib.hid (HTB.out.kept k38)
  replace Hp1 := Lib.hid (Hp1.out.kept k38)
  replace Hp2 := Lib.hid (Hp2.out.kept k38)
  replace Hq1 := Lib.hid (Hq1.out.kept k38)
  replace Hp3 := Lib.hid (Hp3.out.kept k38)
  replace Hq2 := Lib.hid (Hq2.out.kept k38)
  replace Hp4 := Lib.hid (Hp4.out.kept k38)
  replace HBX := Lib.hid (HBX.out.kept k38)
  replace Hp5 := Lib.hid (Hp5.out.kept k38)
  replace Hq3 := Lib.hid (Hq3.out.kept k38)
  replace Hp6 := Lib.hid (Hp6.out.kept k38)
  replace Hp7 := Lib.hid (Hp7.out.kept k38)
  replace HKK := Lib.hid (HKK.out.trans k38)
  have HWw38 := Lib.hid hw38
  clear hw38 k38
  go_simp
  rw [HWw38.out]
  refine hK.out _ _ ((nd_six HBX.out).1) (fun hHeld38 => ?_)
  clear hK K
  (try simp only [Act.put, List.getElem_toArray, List.getElem_cons_zero, List.getElem_cons_succ, List.setIfInBounds_toArray, List.set_cons_zero, List.set_cons_succ])
  clear hHeld37
  refine wpAnyH_ready (rs := [6]) (by kernel_rfl) (by simp) ?_
  refine AllReadyH.cons rfl (fun K hK => ?_) AllReadyH.nil
  go_simp
  refine (pnode_c _ _ _ _ _ _).mono ?_
  rintro e w39 ⟨rfl, k39⟩
  replace HTB := Lib.hid (HTB.out.kept k39)
  replace Hp1 := Lib.hid (Hp1.out.kept k39)
  replace Hp2 := Lib.hid (Hp2.out.kept k39)
  replace Hq1 := Lib.hid (Hq1.out.kept k39)
  replace Hp3 := Lib.hid (Hp3.out.kept k39)
  replace Hq2 := Lib.hid (Hq2.out.kept k39)
  replace Hp4 := Lib.hid (Hp4.out.kept k39)
  replace HBX := Lib.hid (HBX.out.kept k39)
  replace Hp5 := Lib.hid (Hp5.out.kept k39)
  replace Hq3 := Lib.hid (Hq3.out.kept k39)
  replace Hp6 := Lib.hid (Hp6.out.kept k39)
  replace Hp7 := Lib.hid (Hp7.out.kept k39)
  replace Hq4 := Lib.hid (Hq4.out.kept k39)
  replace HKK := Lib.hid (HKK.out.trans k39)
  have Hp8 := Lib.hid (show Mk w39 (Ps.nd 1 ⟨#[]⟩ ⟨#[]⟩ 0 [(Ps.nd 2 ⟨#[65]⟩ ⟨#[66]⟩ 0 [(Ps.nd 3 ⟨#[120]⟩ ⟨#[63]⟩ 0 []), (Ps.nd 4 ⟨#[102]⟩ ⟨#[65]⟩ 0 [(Ps.nd 5 ⟨#[97]⟩ ⟨#[105, 110, 116]⟩ 0 []), (Ps.nd 6 ⟨#[]⟩ ⟨#[]⟩ 0 [(Ps.nd 13 ⟨#[]⟩ ⟨#[]⟩ 0 [])])])]), (Ps.nd 6 ⟨#[]⟩ ⟨#[]⟩ 0 [])]) (.slice (some ⟨w37.heap.size, 0, none⟩) 2 2) from ⟨nd_ok1 _ _ _ _ _ (by decide) (by decide) (by decide) (by decide), Hq4.out⟩)
  refine hK.out _ _ ((nd_six HBX.out).1) (fun hHeld39 => ?_)
  clear hK K
  (try simp only [Act.put, List.getElem_toArray, List.getElem_cons_zero, List.getElem_cons_succ, List.setIfInBounds_toArray, List.set_cons_zero, List.set_cons_succ])
  clear k39 hHeld38
  refine wpAnyH_ready (rs := [7]) (by kernel_rfl) (by simp) ?_
  refine AllReadyH.cons rfl (fun K hK => ?_) AllReadyH.nil
  go_simp
  refine (means_c ⟨#[99, 108, 97, 115, 115, 32, 65, 58, 66, 123, 118, 97, 114, 32, 120, 59, 100, 101, 102, 32, 102, 40, 97, 58, 105, 110, 116, 41, 58, 65, 123, 116, 104, 105, 115, 125, 125, 109, 97, 105, 110, 123, 125]⟩ (by decide) (Ps.nd 1 ⟨#[]⟩ ⟨#[]⟩ 0 [(Ps.nd 2 ⟨#[65]⟩ ⟨#[66]⟩ 0 [(Ps.nd 3 ⟨#[120]⟩ ⟨#[63]⟩ 0 []), (Ps.nd 4 ⟨#[102]⟩ ⟨#[65]⟩ 0 [(Ps.nd 5 ⟨#[97]⟩ ⟨#[105, 110, 116]⟩ 0 []), (Ps.nd 6 ⟨#[]⟩ ⟨#[]⟩ 0 [(Ps.nd 13 ⟨#[]⟩ ⟨#[]⟩ 0 [])])])]), (Ps.nd 6 ⟨#[]⟩ ⟨#[]⟩ 0 [])]) _ _ HTB.out Hp8.out (show parseP (⟨#[99, 108, 97, 115, 115, 32, 65, 58, 66, 123, 118, 97, 114, 32, 120, 59, 100, 101, 102, 32, 102, 40, 97, 58, 105, 110, 116, 41, 58, 65, 123, 116, 104, 105, 115, 125, 125, 109, 97, 105, 110, 123, 125]⟩ : ByteArray).data.toList = .tree (Ps.nd 1 ⟨#[]⟩ ⟨#[]⟩ 0 [(Ps.nd 2 ⟨#[65]⟩ ⟨#[66]⟩ 0 [(Ps.nd 3 ⟨#[120]⟩ ⟨#[63]⟩ 0 []), (Ps.nd 4 ⟨#[102]⟩ ⟨#[65]⟩ 0 [(Ps.nd 5 ⟨#[97]⟩ ⟨#[105, 110, 116]⟩ 0 []), (Ps.nd 6 ⟨#[]⟩ ⟨#[]⟩ 0 [(Ps.nd 13 ⟨#[]⟩ ⟨#[]⟩ 0 [])])])]), (Ps.nd 6 ⟨#[]⟩ ⟨#[]⟩ 0 [])]) from px7)).mono ?_
  rintro e w40 ⟨rfl, k40⟩
  replace HTB := Lib.hid (HTB.out.kept k40)
  replace Hp1 := Lib.hid (Hp1.out.kept k40)
  replace Hp2 := Lib.hid (Hp2.out.kept k40)
  replace Hq1 := Lib.hid (Hq1.out.kept k40)
  replace Hp3 := Lib.hid (Hp3.out.kept k40)
  replace Hq2 := Lib.hid (Hq2.out.kept k40)
  replace Hp4 := Lib.hid (Hp4.out.kept k40)
  replace HBX := Lib.hid (HBX.out.kept k40)
  replace Hp5 := Lib.hid (Hp5.out.kept k40)
  replace Hq3 := Lib.hid (Hq3.out.kept k40)
  replace Hp6 := Lib.hid (Hp6.out.kept k40)
  replace Hp7 := Lib.hid (Hp7.out.kept k40)
  replace Hq4 := Lib.hid (Hq4.out.kept k40)
  replace Hp8 := Lib.hid (Hp8.out.kept k40)
  replace HKK := Lib.hid (HKK.out.trans k40)
  refine hK.out _ _ ((nd_six HBX.out).1) (fun hHeld40 => ?_)
  clear hK K
  (try simp only [Act.put, List.getElem_toArray, List.getElem_cons_zero, List.getElem_cons_succ, List.setIfInBounds_toArray, List.set_cons_zero, List.set_cons_succ])
  clear k40 hHeld39
  refine wpAnyH_take (i := 8) (v := ?_) rfl (by kernel_rfl) (by kernel_rfl) (by kernel_rfl) (fun _ _ _ h => h) (Or.inl ⟨by kernel_rfl, ?_⟩) (by assumption) ?_
  rotate_left
  · intro w hSw; (try dsimp only at hSw); go_simp; (try with_reducible rfl)
  (try simp only [Act.put, List.getElem_toArray, List.getElem_cons_zero, List.getElem_cons_succ, List.setIfInBounds_toArray, List.set_cons_zero, List.set_cons_succ])
  refine wpAnyH_done (by kernel_rfl) ?_ _
  go_wp2_with fail
  refine (pawake_c _ HTB.out).mono ?_
  rintro e w41 ⟨rfl, k41⟩
  replace HTB := Lib.hid (HTB.out.kept k41)
  replace HKK := Lib.hid (HKK.out.trans k41)
  clear k41
  go_wp2_with fail
  refine (pfails_c ⟨#[]⟩ (by decide) 0 _ HTB.out (show parseP (⟨#[]⟩ : ByteArray).data.toList = .fault 5 0 from px8)).mono ?_
  rintro e w42 ⟨rfl, k42⟩
  replace HTB := Lib.hid (HTB.out.kept k42)
  replace HKK := Lib.hid (HKK.out.trans k42)
  clear k42
  go_wp2_with fail
  refine (pfails_c ⟨#[109, 97, 105, 110, 123, 108, 101, 116, 32, 120, 125]⟩ (by decide) 10 _ HTB.out (show parseP (⟨#[109, 97, 105, 110, 123, 108, 101, 116, 32, 120, 125]⟩ : ByteArray).data.toList = .fault 5 10 from px9)).mono ?_
  rintro e w43 ⟨rfl, k43⟩
  replace HTB := Lib.hid (HTB.out.kept k43)
  replace HKK := Lib.hid (HKK.out.trans k43)
  clear k43
  go_wp2_with fail
  refine (pfails_c ⟨#[109, 97, 105, 110, 123, 125, 32, 49]⟩ (by decide) 7 _ HTB.out (show parseP (⟨#[109, 97, 105, 110, 123, 125, 32, 49]⟩ : ByteArray).data.toList = .fault 5 7 from px10)).mono ?_
  rintro e w44 ⟨rfl, k44⟩
  replace HTB := Lib.hid (HTB.out.kept k44)
  replace HKK := Lib.hid (HKK.out.trans k44)
  clear k44
  go_wp2_with fail
  refine (pfails_c ⟨#[109, 97, 105, 110, 123, 34]⟩ (by decide) 5 _ HTB.out (show parseP (⟨#[109, 97, 105, 110, 123, 34]⟩ : ByteArray).data.toList = .fault 5 5 from px11)).mono ?_
  rintro e w45 ⟨rfl, k45⟩
  replace HTB := Lib.hid (HTB.out.kept k45)
  replace HKK := Lib.hid (HKK.out.trans k45)
  clear k45
  go_wp2_with fail
  refine (pfails_c ⟨#[109, 97, 105, 110, 123, 49]⟩ (by decide) 6 _ HTB.out (show parseP (⟨#[109, 97, 105, 110, 123, 49]⟩ : ByteArray).data.toList = .fault 5 6 from px12)).mono ?_
  rintro e w46 ⟨rfl, k46⟩
  replace HTB := Lib.hid (HTB.out.kept k46)
  replace HKK := Lib.hid (HKK.out.trans k46)
  clear k46
  go_wp2_with fail
  go_ret
  exact ⟨rfl, HKK.out⟩
end Go.Proofs.YtfkmnpgpfmkjaaaGreatDoor
