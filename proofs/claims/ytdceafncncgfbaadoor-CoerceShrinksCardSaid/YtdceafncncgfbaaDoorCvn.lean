/- narrow: what a class does not have is hidden; is all that it has shown? -/
import Derived.Test.YtdceafncncgfbaaDoorCvw
set_option linter.unusedSimpArgs false
set_option linter.unusedVariables false
set_option maxRecDepth 100000
namespace Go.Proofs.YtdceafncncgfbaaDoor
open Go.ChangeShapes Go.WideShapes Go.ChangeAt Go.RowKit Go.Shelf
open Co (dd mb shown)

def Nar (g m1 m2 : Nat) (tv : Value) (t : List Tab.C) (own : ByteArray) (cs : List ByteArray) (c : ByteArray) (w : World) (e : Ending) (w' : World) : Prop :=
  e = .returned (.bool (decide ((shown t own (cs ++ [c])).length = (dd (mb t c)).length))) ∧ ViewAt g m1 m2 tv t own (cs ++ [c]) w' ∧ Only (fun k => k = m1 ∨ k = m2) w w'

theorem eqN (a b : Nat) : ((a : Int) == (b : Int)) = decide (a = b) := by
  by_cases h : a = b
  · subst h; simp
  · rw [decide_eq_false h]
    simp; omega

set_option maxHeartbeats 4000000 in
theorem narrow_old (g m1 m2 : Nat) (tv : Value) (t : List Tab.C) (own : ByteArray) (cs : List ByteArray) (c : ByteArray) (w : World) (h : ViewAt g m1 m2 tv t own cs w) (hc : c.size ≤ maxLen) (hm : c ∈ cs) :
    Calls Tryd.prog 32 #[.pointer (some ⟨g, 0, none⟩), .string c] w (Nar g m1 m2 tv t own cs c w) := by
  have hl := h.map.look (t := 87) (e := 94) (Maps.string_keyed Tryd.underlying9) Tryd.underlying87 (zero_size w) c (string_key hc)
  have hlk : looked t cs c = some (szV (dd (mb t c)).length) := by unfold looked; rw [if_pos (by simpa using hm)]
  rw [hlk] at hl
  simp only [Option.getD_some, Option.isSome_some] at hl
  have HR := Lib.hid (show shown t own (cs ++ [c]) = shown t own cs from Co.shown_again hm)
  have HV := Lib.hid (show ViewAt g m1 m2 tv t own (cs ++ [c]) w from ⟨h.blk, by rw [HR.out]; exact h.set, by rw [looked_again hm]; exact h.map.mono (by simp), h.d1, h.d2, h.d3⟩)
  obtain ⟨W1, hW1⟩ : ∃ W, w.alloc (.cells #[.int .i64 0] 94) = W := ⟨_, rfl⟩
  have k1 : Kept w W1 := by rw [← hW1]; exact (Kept.refl w).alloc _
  have b1 : Blk W1 w.heap.size 94 #[.int .i64 0] := by rw [← hW1]; exact Blk.new _ _ _
  obtain ⟨W2, hW2⟩ : ∃ W, W1.setCell ⟨w.heap.size, 0, none⟩ (.int .i64 ((dd (mb t c)).length : Int)) = W := ⟨_, rfl⟩
  have b2 : Blk W2 w.heap.size 94 #[.int .i64 ((dd (mb t c)).length : Int)] := by
    have := b1.put 0 (.int .i64 ((dd (mb t c)).length : Int))
    rw [← hW2]; simpa using this
  have k2 : Kept w W2 := by rw [← hW2]; exact k1.setCell (Nat.le_refl _) _
  have x2 := h.blk.cell 2
  have x1 := (h.blk.kept k2).cell 1
  have y0 := b2.cell 0
  have z0 := b1.cell 0
  have z1 := b1.frozen 0
  simp at x1 x2 y0 z0
  have hlen := fun ty => (h.set.kept k2.drew).len (t := 89) (e := 97) Tryd.underlying89 ty
  have he := eqN (shown t own cs).length (dd (mb t c)).length
  have HK2 := Lib.hid k2
  have HW1 := Lib.hid hW1
  have HW2 := Lib.hid hW2
  clear h hc hm hlk b1 b2 k1 k2 hW1 hW2
  unfold Nar
  rw [HR.out]
  go_enter Tryd.func32, Tryd.ntmps32
  go_wp2_with (first | rw [HW1.out] | rw [HW2.out])
  refine wp_region_held_drew (S := (fun W => W.cell? ⟨g, 1, none⟩ = some (.map (some m1)) ∧ W.cell? ⟨w.heap.size, 0, none⟩ = some (.int .i64 ((dd (mb t c)).length : Int)) ∧ (Builtin.len_ #[89] 3 #[.map (some m1)]).run Tryd.prog W = .ok (.int .i64 ((shown t own cs).length : Int)) W)) (by kernel_rfl) ⟨x1, y0, hlen _⟩ (fun hHeld0 => ?_)
  refine wpAnyH_take (i := 0) (v := ?_) rfl (by kernel_rfl) (by kernel_rfl) (by kernel_rfl) (fun _ _ _ h => h) (Or.inl ⟨by kernel_rfl, ?_⟩) (by assumption) ?_
  rotate_left
  · intro w hSw; (try dsimp only at hSw); go_simp; (try with_reducible rfl)
  (try simp only [Act.put, List.getElem_toArray, List.getElem_cons_zero, List.getElem_cons_succ, List.setIfInBounds_toArray, List.set_cons_zero, List.set_cons_succ])
  refine wpAnyH_take (i := 1) (v := ?_) rfl (by kernel_rfl) (by kernel_rfl) (by kernel_rfl) (fun _ _ _ h => h) (Or.inl ⟨by kernel_rfl, ?_⟩) (by assumption) ?_
  rotate_left
  · intro w hSw; (try dsimp only at hSw); go_simp; (try with_reducible rfl)
  (try simp only [Act.put, List.getElem_toArray, List.getElem_cons_zero, List.getElem_cons_succ, List.setIfInBounds_toArray, List.set_cons_zero, List.set_cons_succ])
  refine wpAnyH_take (i := 2) (v := ?_) rfl (by kernel_rfl) (by kernel_rfl) (by kernel_rfl) (fun _ _ _ h => h) (Or.inl ⟨by kernel_rfl, ?_⟩) (by assumption) ?_
  rotate_left
  · intro w hSw; (try dsimp only at hSw); go_simp; (try with_reducible rfl)
  (try simp only [Act.put, List.getElem_toArray, List.getElem_cons_zero, List.getElem_cons_succ, List.setIfInBounds_toArray, List.set_cons_zero, List.set_cons_succ])
  refine wpAnyH_take (i := 3) (v := ?_) rfl (by kernel_rfl) (by kernel_rfl) (by kernel_rfl) (fun _ _ _ h => h) (Or.inl ⟨by kernel_rfl, ?_⟩) (by assumption) ?_
  rotate_left
  · intro w hSw; (try dsimp only at hSw); go_simp; (try with_reducible rfl)
  (try simp only [Act.put, List.getElem_toArray, List.getElem_cons_zero, List.getElem_cons_succ, List.setIfInBounds_toArray, List.set_cons_zero, List.set_cons_succ])
  refine wpAnyH_take (i := 5) (v := ?_) rfl (by kernel_rfl) (by kernel_rfl) (by kernel_rfl) (fun _ _ _ h => h) (Or.inl ⟨by kernel_rfl, ?_⟩) (by assumption) ?_
  rotate_left
  · intro w hSw; (try dsimp only at hSw); go_simp; (try with_reducible rfl)
  (try simp only [Act.put, List.getElem_toArray, List.getElem_cons_zero, List.getElem_cons_succ, List.setIfInBounds_toArray, List.set_cons_zero, List.set_cons_succ])
  refine wpAnyH_take (i := 6) (v := ?_) rfl (by kernel_rfl) (by kernel_rfl) (by kernel_rfl) (fun _ _ _ h => h) (Or.inl ⟨by kernel_rfl, ?_⟩) (by assumption) ?_
  rotate_left
  · intro w hSw; (try dsimp only at hSw); go_simp; (try with_reducible rfl)
  (try simp only [Act.put, List.getElem_toArray, List.getElem_cons_zero, List.getElem_cons_succ, List.setIfInBounds_toArray, List.set_cons_zero, List.set_cons_succ])
  refine wpAnyH_ready (rs := [4]) (by kernel_rfl) (by simp) ?_
  refine AllReadyH.cons rfl (fun K hK => ?_) AllReadyH.nil
  go_simp
  refine hK.out _ _ hHeld0 (fun hHeld1 => ?_)
  clear hK K
  (try simp only [Act.put, List.getElem_toArray, List.getElem_cons_zero, List.getElem_cons_succ, List.setIfInBounds_toArray, List.set_cons_zero, List.set_cons_succ])
  refine wpAnyH_take (i := 7) (v := ?_) rfl (by kernel_rfl) (by kernel_rfl) (by kernel_rfl) (fun _ _ _ h => h) (Or.inl ⟨by kernel_rfl, ?_⟩) (by assumption) ?_
  rotate_left
  · intro w hSw; (try dsimp only at hSw); go_simp; (try with_reducible rfl)
  (try simp only [Act.put, List.getElem_toArray, List.getElem_cons_zero, List.getElem_cons_succ, List.setIfInBounds_toArray, List.set_cons_zero, List.set_cons_succ])
  refine wpAnyH_take (i := 8) (v := ?_) rfl (by kernel_rfl) (by kernel_rfl) (by kernel_rfl) (fun _ _ _ h => h) (Or.inl ⟨by kernel_rfl, ?_⟩) (by assumption) ?_
  rotate_left
  · intro w hSw; (try dsimp only at hSw); go_simp; (try with_reducible rfl)
  (try simp only [Act.put, List.getElem_toArray, List.getElem_cons_zero, List.getElem_cons_succ, List.setIfInBounds_toArray, List.set_cons_zero, List.set_cons_succ])
  refine wpAnyH_done (by kernel_rfl) ?_ _
  clear hHeld0 hHeld1 hlen
  go_wp2_with fail
  go_ret
  exact ⟨rfl, HV.out.kept HK2.out.drew, Only.of_kept HK2.out.drew⟩

set_option maxHeartbeats 4000000 in
theorem narrow_new (g m1 m2 : Nat) (a : Option Addr) (cp : Nat) (t : List Tab.C) (own : ByteArray) (cs : List ByteArray) (c : ByteArray) (w : World) (h : ViewAt g m1 m2 (.slice a t.length cp) t own cs w) (hT : TabAt w (.slice a t.length cp) t) (hS : Small t) (hc : c.size ≤ maxLen) (hn : cs.length < 1000000) (hm : ¬ c ∈ cs) :
    Calls Tryd.prog 32 #[.pointer (some ⟨g, 0, none⟩), .string c] w (Nar g m1 m2 (.slice a t.length cp) t own cs c w) := by
  have hl := h.map.look (t := 87) (e := 94) (Maps.string_keyed Tryd.underlying9) Tryd.underlying87 (zero_size w) c (string_key hc)
  have hlk : looked t cs c = none := by unfold looked; rw [if_neg (by simpa using hm)]
  rw [hlk] at hl
  simp only [Option.getD_none, Option.isSome_none] at hl
  have hd1 := h.d1
  have hd2 := h.d2
  have hd3 := h.d3
  have hg := h.blk.lt
  have hl1 := h.set.lt
  have hl2 := h.map.lt
  have HR := Lib.hid (Co.shown_snoc t own cs c)
  obtain ⟨W1, hW1⟩ : ∃ W, w.alloc (.cells #[.int .i64 0] 94) = W := ⟨_, rfl⟩
  have k1 : Kept w W1 := by rw [← hW1]; exact (Kept.refl w).alloc _
  have z1 : W1.heap.size = w.heap.size + 1 := by rw [← hW1]; simp
  have b1 : Blk W1 w.heap.size 94 #[.int .i64 0] := by rw [← hW1]; exact Blk.new _ _ _
  obtain ⟨W2, hW2⟩ : ∃ W, W1.setCell ⟨w.heap.size, 0, none⟩ (.int .i64 0) = W := ⟨_, rfl⟩
  have b2 : Blk W2 w.heap.size 94 #[.int .i64 0] := by
    have := b1.put 0 (.int .i64 0)
    rw [← hW2]; simpa using this
  have k2 : Kept w W2 := by rw [← hW2]; exact k1.setCell (Nat.le_refl _) _
  have z2 : W2.heap.size = w.heap.size + 1 := by rw [← hW2]; simpa using z1
  have x2 := h.blk.cell 2
  have z0 := b1.cell 0
  have zf := b1.frozen 0
  have v0 := (h.blk.kept k2).cell 0
  simp at x2 z0 v0
  have HH := Lib.hid (has_c g a cp t c W2 v0 (tab_kept hT k2) hS)
  rw [z2] at HH
  have HV2 := Lib.hid (h.kept k2)
  have HB2 := Lib.hid b2
  have HK2 := Lib.hid k2
  have HW1 := Lib.hid hW1
  have HW2 := Lib.hid hW2
  clear h hlk b1 b2 k1 k2 hW1 hW2 v0 hT
  go_enter Tryd.func32, Tryd.ntmps32
  go_wp2_with (first | rw [HW1.out] | rw [HW2.out])
  refine HH.out.mono ?_
  rintro e w3 ⟨rfl, hs3, k3⟩
  have h3 := HV2.out.kept k3
  have b3 := HB2.out.kept k3
  have z3 : w.heap.size + 1 < w3.heap.size := hs3.lt
  obtain ⟨W4, hW4⟩ : ∃ W, w3.alloc (.cells #[.map none] 89) = W := ⟨_, rfl⟩
  have k4 : Kept w3 W4 := by rw [← hW4]; exact (Kept.refl _).alloc _
  have b4 : Blk W4 w3.heap.size 89 #[.map none] := by rw [← hW4]; exact Blk.new _ _ _
  obtain ⟨W5, hW5⟩ : ∃ W, W4.setCell ⟨w3.heap.size, 0, none⟩ (.map (some (w.heap.size + 1))) = W := ⟨_, rfl⟩
  have b5 : Blk W5 w3.heap.size 89 #[.map (some (w.heap.size + 1))] := by
    have := b4.put 0 (.map (some (w.heap.size + 1)))
    rw [← hW5]; simpa using this
  have k5 : Kept w3 W5 := by rw [← hW5]; exact k4.setCell (Nat.le_refl _) _
  have h5 := h3.kept k5
  have c5 := b5.cell 0
  have c4 := b4.cell 0
  have f4 := b4.frozen 0
  have x1 := h5.blk.cell 1
  simp at c5 c4 x1
  have HD := Lib.hid (delfunc_c m1 2002000 (shown t own cs) w3.heap.size (w.heap.size + 1) 2002000 (dd (mb t c)) W5 h5.set c5 (hs3.kept k5) (by omega) (by omega))
  rw [← HR.out] at HD
  have HS5 := Lib.hid (hs3.kept k5)
  have HV5 := Lib.hid h5
  have HB5 := Lib.hid b5
  have HZ5 := Lib.hid (b3.kept k5)
  have HK5 := Lib.hid ((HK2.out.trans k3).trans k5)
  have HW4 := Lib.hid hW4
  have HW5 := Lib.hid hW5
  clear hs3 h3 b3 k3 k4 b4 b5 k5 h5 hW4 hW5 hl
  go_wp2_with (first | rw [HW4.out] | rw [HW5.out])
  refine HD.out.mono ?_
  rintro e w6 ⟨rfl, hs6, o6⟩
  have s6 := HS5.out.only o6 (by omega)
  have q6 := HV5.out.map.only o6 (fun e => hd1 e.symm)
  have bg6 := HV5.out.blk.only o6 hd2
  have b6 := HB5.out.only o6 (by omega)
  have d6 := HZ5.out.only o6 (by omega)
  have hlen0 := fun ty => s6.len (t := 89) (e := 97) Tryd.underlying89 ty
  have c6 := b6.cell 0
  have e6 := d6.cell 0
  have f6 := d6.frozen 0
  simp at c6 e6
  obtain ⟨W7, hW7⟩ : ∃ W, w6.setCell ⟨w.heap.size, 0, none⟩ (.int .i64 ((dd (mb t c)).length : Int)) = W := ⟨_, rfl⟩
  have b7 : Blk W7 w.heap.size 94 #[.int .i64 ((dd (mb t c)).length : Int)] := by
    have := d6.put 0 (.int .i64 ((dd (mb t c)).length : Int))
    rw [← hW7]; simpa using this
  have o7 : Only (· = w.heap.size) w6 W7 := by rw [← hW7]; exact (Only.refl _ _).put 0 _
  have bg7 := bg6.only o7 (by omega)
  have kd : Kept W7 W7.drew := (Kept.refl _).drew
  obtain ⟨W8, hup, hm8, hg8⟩ := ((q6.only o7 (by omega)).keptN kd).store (t := 87) (e := 94) (Maps.string_keyed Tryd.underlying9) Tryd.underlying87 (by unfold maxLen; omega) c (szV (dd (mb t c)).length) (string_key hc)
  have o8 : Only (· = m2) W7 W8 := (Only.of_kept kd).trans (Only.grown (S := (· = m2)) (Only.refl _ _) hg8 fun k e => .inl (Option.some.inj e).symm)
  have hs8 := (hs6.only o7 (by omega)).only o8 hd1
  have bg8 := bg7.only o8 hd3
  have b8 := b7.only o8 (by omega)
  have hlen8 := fun ty => (hs8.kept (Kept.refl W8).drew).len (t := 89) (e := 97) Tryd.underlying89 ty
  have he := eqN (shown t own (cs ++ [c])).length (dd (mb t c)).length
  have HV8 := Lib.hid (show ViewAt g m1 m2 (.slice a t.length cp) t own (cs ++ [c]) W8 from ⟨bg8, hs8, by
    rw [looked_snoc]
    exact hm8.mono (by simp), hd1, hd2, hd3⟩)
  have HO8 := Lib.hid (show Only (fun k => k = m1 ∨ k = m2) w W8 from (((Only.of_kept HK5.out).trans (o6.mono fun k _ e => .inl e)).trans' o7 (fun k h e => by omega)).trans (o8.mono fun k _ e => .inr e))
  have u1 := bg7.cell 2
  have u2 := b7.cell 0
  have r1 := bg8.cell 1
  have r2 := b8.cell 0
  simp at u1 u2 r1 r2
  have HW7 := Lib.hid hW7
  have HUP := Lib.hid hup
  clear hs6 o6 s6 q6 bg6 b6 d6 b7 o7 bg7 kd hm8 hg8 o8 hs8 bg8 b8 hW7 hup
  go_wp2_with (first | rw [HW7.out])
  refine wp_region_till (S := (fun W => W.cell? ⟨g, 2, none⟩ = some (.map (some m2)) ∧ W.cell? ⟨w.heap.size, 0, none⟩ = some (.int .i64 ((dd (mb t c)).length : Int)))) 6 (by kernel_rfl) ⟨u1, u2⟩ (fun hHeld0 => ?_)
  refine wpAnyT_take (i := 0) (v := ?_) rfl (by kernel_rfl) (by kernel_rfl) (by kernel_rfl) (fun _ _ _ h => h) (Or.inl ⟨by kernel_rfl, ?_⟩) (by assumption) ?_
  rotate_left
  · intro w hSw; (try dsimp only at hSw); go_simp; (try with_reducible rfl)
  (try simp only [Act.put, List.getElem_toArray, List.getElem_cons_zero, List.getElem_cons_succ, List.setIfInBounds_toArray, List.set_cons_zero, List.set_cons_succ])
  refine wpAnyT_take (i := 1) (v := ?_) rfl (by kernel_rfl) (by kernel_rfl) (by kernel_rfl) (fun _ _ _ h => h) (Or.inl ⟨by kernel_rfl, ?_⟩) (by assumption) ?_
  rotate_left
  · intro w hSw; (try dsimp only at hSw); go_simp; (try with_reducible rfl)
  (try simp only [Act.put, List.getElem_toArray, List.getElem_cons_zero, List.getElem_cons_succ, List.setIfInBounds_toArray, List.set_cons_zero, List.set_cons_succ])
  refine wpAnyT_take (i := 2) (v := ?_) rfl (by kernel_rfl) (by kernel_rfl) (by kernel_rfl) (fun _ _ _ h => h) (Or.inl ⟨by kernel_rfl, ?_⟩) (by assumption) ?_
  rotate_left
  · intro w hSw; (try dsimp only at hSw); go_simp; (try with_reducible rfl)
  (try simp only [Act.put, List.getElem_toArray, List.getElem_cons_zero, List.getElem_cons_succ, List.setIfInBounds_toArray, List.set_cons_zero, List.set_cons_succ])
  refine wpAnyT_take (i := 3) (v := ?_) rfl (by kernel_rfl) (by kernel_rfl) (by kernel_rfl) (fun _ _ _ h => h) (Or.inl ⟨by kernel_rfl, ?_⟩) (by assumption) ?_
  rotate_left
  · intro w hSw; (try dsimp only at hSw); go_simp; (try with_reducible rfl)
  (try simp only [Act.put, List.getElem_toArray, List.getElem_cons_zero, List.getElem_cons_succ, List.setIfInBounds_toArray, List.set_cons_zero, List.set_cons_succ])
  refine wpAnyT_take (i := 4) (v := ?_) rfl (by kernel_rfl) (by kernel_rfl) (by kernel_rfl) (fun _ _ _ h => h) (Or.inl ⟨by kernel_rfl, ?_⟩) (by assumption) ?_
  rotate_left
  · intro w hSw; (try dsimp only at hSw); go_simp; (try with_reducible rfl)
  (try simp only [Act.put, List.getElem_toArray, List.getElem_cons_zero, List.getElem_cons_succ, List.setIfInBounds_toArray, List.set_cons_zero, List.set_cons_succ])
  refine wpAnyT_take (i := 5) (v := ?_) rfl (by kernel_rfl) (by kernel_rfl) (by kernel_rfl) (fun _ _ _ h => h) (Or.inl ⟨by kernel_rfl, ?_⟩) (by assumption) ?_
  rotate_left
  · intro w hSw; (try dsimp only at hSw); go_simp; (try with_reducible rfl)
  (try simp only [Act.put, List.getElem_toArray, List.getElem_cons_zero, List.getElem_cons_succ, List.setIfInBounds_toArray, List.set_cons_zero, List.set_cons_succ])
  have hup := HUP.out
  refine wpAnyT_ready (rs := [6]) (by kernel_rfl) (by simp) ?_
  refine AllReadyT.fin rfl (fun K hK => ?_)
  go_simp
  refine hK.out _ _ ?_
  clear hK K
  (try simp only [Act.put, List.getElem_toArray, List.getElem_cons_zero, List.getElem_cons_succ, List.setIfInBounds_toArray, List.set_cons_zero, List.set_cons_succ])
  refine wpAnyT_done (by kernel_rfl) ?_ _
  clear hHeld0 hup hlen0
  go_wp2_with fail
  refine wp_region_held_drew (S := (fun W => W.cell? ⟨g, 1, none⟩ = some (.map (some m1)) ∧ W.cell? ⟨w.heap.size, 0, none⟩ = some (.int .i64 ((dd (mb t c)).length : Int)) ∧ (Builtin.len_ #[89] 3 #[.map (some m1)]).run Tryd.prog W = .ok (.int .i64 ((shown t own (cs ++ [c])).length : Int)) W)) (by kernel_rfl) ⟨r1, r2, hlen8 _⟩ (fun hHeld1 => ?_)
  refine wpAnyH_take (i := 0) (v := ?_) rfl (by kernel_rfl) (by kernel_rfl) (by kernel_rfl) (fun _ _ _ h => h) (Or.inl ⟨by kernel_rfl, ?_⟩) (by assumption) ?_
  rotate_left
  · intro w hSw; (try dsimp only at hSw); go_simp; (try with_reducible rfl)
  (try simp only [Act.put, List.getElem_toArray, List.getElem_cons_zero, List.getElem_cons_succ, List.setIfInBounds_toArray, List.set_cons_zero, List.set_cons_succ])
  refine wpAnyH_take (i := 1) (v := ?_) rfl (by kernel_rfl) (by kernel_rfl) (by kernel_rfl) (fun _ _ _ h => h) (Or.inl ⟨by kernel_rfl, ?_⟩) (by assumption) ?_
  rotate_left
  · intro w hSw; (try dsimp only at hSw); go_simp; (try with_reducible rfl)
  (try simp only [Act.put, List.getElem_toArray, List.getElem_cons_zero, List.getElem_cons_succ, List.setIfInBounds_toArray, List.set_cons_zero, List.set_cons_succ])
  refine wpAnyH_take (i := 2) (v := ?_) rfl (by kernel_rfl) (by kernel_rfl) (by kernel_rfl) (fun _ _ _ h => h) (Or.inl ⟨by kernel_rfl, ?_⟩) (by assumption) ?_
  rotate_left
  · intro w hSw; (try dsimp only at hSw); go_simp; (try with_reducible rfl)
  (try simp only [Act.put, List.getElem_toArray, List.getElem_cons_zero, List.getElem_cons_succ, List.setIfInBounds_toArray, List.set_cons_zero, List.set_cons_succ])
  refine wpAnyH_take (i := 3) (v := ?_) rfl (by kernel_rfl) (by kernel_rfl) (by kernel_rfl) (fun _ _ _ h => h) (Or.inl ⟨by kernel_rfl, ?_⟩) (by assumption) ?_
  rotate_left
  · intro w hSw; (try dsimp only at hSw); go_simp; (try with_reducible rfl)
  (try simp only [Act.put, List.getElem_toArray, List.getElem_cons_zero, List.getElem_cons_succ, List.setIfInBounds_toArray, List.set_cons_zero, List.set_cons_succ])
  refine wpAnyH_take (i := 5) (v := ?_) rfl (by kernel_rfl) (by kernel_rfl) (by kernel_rfl) (fun _ _ _ h => h) (Or.inl ⟨by kernel_rfl, ?_⟩) (by assumption) ?_
  rotate_left
  · intro w hSw; (try dsimp only at hSw); go_simp; (try with_reducible rfl)
  (try simp only [Act.put, List.getElem_toArray, List.getElem_cons_zero, List.getElem_cons_succ, List.setIfInBounds_toArray, List.set_cons_zero, List.set_cons_succ])
  refine wpAnyH_take (i := 6) (v := ?_) rfl (by kernel_rfl) (by kernel_rfl) (by kernel_rfl) (fun _ _ _ h => h) (Or.inl ⟨by kernel_rfl, ?_⟩) (by assumption) ?_
  rotate_left
  · intro w hSw; (try dsimp only at hSw); go_simp; (try with_reducible rfl)
  (try simp only [Act.put, List.getElem_toArray, List.getElem_cons_zero, List.getElem_cons_succ, List.setIfInBounds_toArray, List.set_cons_zero, List.set_cons_succ])
  refine wpAnyH_ready (rs := [4]) (by kernel_rfl) (by simp) ?_
  refine AllReadyH.cons rfl (fun K hK => ?_) AllReadyH.nil
  go_simp
  refine hK.out _ _ hHeld1 (fun hHeld2 => ?_)
  clear hK K
  (try simp only [Act.put, List.getElem_toArray, List.getElem_cons_zero, List.getElem_cons_succ, List.setIfInBounds_toArray, List.set_cons_zero, List.set_cons_succ])
  refine wpAnyH_take (i := 7) (v := ?_) rfl (by kernel_rfl) (by kernel_rfl) (by kernel_rfl) (fun _ _ _ h => h) (Or.inl ⟨by kernel_rfl, ?_⟩) (by assumption) ?_
  rotate_left
  · intro w hSw; (try dsimp only at hSw); go_simp; (try with_reducible rfl)
  (try simp only [Act.put, List.getElem_toArray, List.getElem_cons_zero, List.getElem_cons_succ, List.setIfInBounds_toArray, List.set_cons_zero, List.set_cons_succ])
  refine wpAnyH_take (i := 8) (v := ?_) rfl (by kernel_rfl) (by kernel_rfl) (by kernel_rfl) (fun _ _ _ h => h) (Or.inl ⟨by kernel_rfl, ?_⟩) (by assumption) ?_
  rotate_left
  · intro w hSw; (try dsimp only at hSw); go_simp; (try with_reducible rfl)
  (try simp only [Act.put, List.getElem_toArray, List.getElem_cons_zero, List.getElem_cons_succ, List.setIfInBounds_toArray, List.set_cons_zero, List.set_cons_succ])
  refine wpAnyH_done (by kernel_rfl) ?_ _
  clear hHeld1 hHeld2 hlen8
  go_wp2_with fail
  go_ret
  exact ⟨rfl, HV8.out.kept (Kept.refl _).drew, HO8.out.drew⟩

theorem narrow_c (g m1 m2 : Nat) (a : Option Addr) (cp : Nat) (t : List Tab.C) (own : ByteArray) (cs : List ByteArray) (c : ByteArray) (w : World) (h : ViewAt g m1 m2 (.slice a t.length cp) t own cs w) (hT : TabAt w (.slice a t.length cp) t) (hS : Small t) (hc : c.size ≤ maxLen) (hn : cs.length < 1000000) :
    Calls Tryd.prog 32 #[.pointer (some ⟨g, 0, none⟩), .string c] w (Nar g m1 m2 (.slice a t.length cp) t own cs c w) :=
  Classical.byCases (fun hm => narrow_old g m1 m2 _ t own cs c w h hc hm) (fun hm => narrow_new g m1 m2 a cp t own cs c w h hT hS hc hn hm)
end Go.Proofs.YtdceafncncgfbaaDoor
