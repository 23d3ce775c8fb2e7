/- The closure that marks a layer: what it makes of the letters' places. -/
import Derived.Test.YtdceafncncgfbaaDoorChs
import Derived.Lib.OwnBridge
set_option linter.unusedSimpArgs false
set_option linter.unusedVariables false
set_option maxRecDepth 100000
namespace Go.Proofs.YtdceafncncgfbaaDoor
open Go.ChangeShapes Go.WideShapes Go.ChangeAt Go.RowKit

theorem Blk.off {w : World} {g : Nat} {t : TypeId} {cs : Array Value} (h : Blk w g t cs) {b i : Nat} (hne : b ≠ g) (u : Value) : Blk (w.setCell ⟨b, i, none⟩ u) g t cs :=
  h.only ((Only.refl (· = b) w).put i u) (fun e => hne e.symm)
theorem MapL.off {b n : Nat} {f : Ltr → Option Value} {w : World} (h : MapL b n f w) {k i : Nat} (hne : k ≠ b) (u : Value) : MapL b n f (w.setCell ⟨k, i, none⟩ u) :=
  h.only ((Only.refl (· = k) w).put i u) (fun e => hne e.symm)

/-- The blocks of a way along a chain: the marks' row g and its box s, the map s + 2 and its box, how many layers have been met, where the newest letter was met. -/
structure KB (W : World) (s g n : Nat) (p nw : Int) (cs : Array Value) (nm : Nat) (f : Ltr → Option Value) : Prop where
  lt : g < s
  hp : Blk W (s + 4) 3 #[.int .i64 p]
  hm : Blk W (s + 3) 139 #[.map (some (s + 2))]
  hn : Blk W (s + 5) 3 #[.int .i64 nw]
  hk : Blk W s 110 #[.slice (some ⟨g, 0, none⟩) n n]
  hg : Blk W g 113 cs
  map : MapL (s + 2) nm f W

section
variable {W W' : World} {s g n nm : Nat} {p nw : Int} {cs : Array Value} {f : Ltr → Option Value}
theorem KB.only {S : Nat → Prop} (h : KB W s g n p nw cs nm f) (ho : Only S W W') (hS : ∀ k, S k → k ≠ g ∧ (k < s ∨ s + 5 < k)) : KB W' s g n p nw cs nm f := by
  have hlt := h.lt
  exact ⟨h.lt, h.hp.only ho (fun e => by have := hS _ e; omega), h.hm.only ho (fun e => by have := hS _ e; omega), h.hn.only ho (fun e => by have := hS _ e; omega), h.hk.only ho (fun e => by have := hS _ e; omega), h.hg.only ho (fun e => (hS _ e).1 rfl), h.map.only ho (fun e => by have := hS _ e; omega)⟩
theorem KB.kept (h : KB W s g n p nw cs nm f) (k : Kept W W') : KB W' s g n p nw cs nm f := h.only (S := fun _ => False) (Only.of_kept k) (fun _ e => e.elim)
theorem KB.setP (h : KB W s g n p nw cs nm f) (p' : Int) : KB (W.setCell ⟨s + 4, 0, none⟩ (.int .i64 p')) s g n p' nw cs nm f := by
  have hlt := h.lt
  exact ⟨h.lt, h.hp.put 0 _, h.hm.off (by omega) _, h.hn.off (by omega) _, h.hk.off (by omega) _, h.hg.off (by omega) _, h.map.off (by omega) _⟩
theorem KB.setN (h : KB W s g n p nw cs nm f) (nw' : Int) : KB (W.setCell ⟨s + 5, 0, none⟩ (.int .i64 nw')) s g n p nw' cs nm f := by
  have hlt := h.lt
  exact ⟨h.lt, h.hp.off (by omega) _, h.hm.off (by omega) _, h.hn.put 0 _, h.hk.off (by omega) _, h.hg.off (by omega) _, h.map.off (by omega) _⟩
theorem KB.setG (h : KB W s g n p nw cs nm f) (i : Nat) (v : Value) : KB (W.setCell ⟨g, i, none⟩ v) s g n p nw (cs.setIfInBounds i v) nm f := by
  have hlt := h.lt
  exact ⟨h.lt, h.hp.off (by omega) _, h.hm.off (by omega) _, h.hn.off (by omega) _, h.hk.off (by omega) _, h.hg.put i _, h.map.off (by omega) _⟩
theorem KB.setO (h : KB W s g n p nw cs nm f) {b i : Nat} (hb : b ≠ g ∧ (b < s ∨ s + 5 < b)) (v : Value) : KB (W.setCell ⟨b, i, none⟩ v) s g n p nw cs nm f :=
  h.only ((Only.refl (· = b) W).put i v) (fun k e => by subst e; exact hb)
theorem KB.size (h : KB W s g n p nw cs nm f) : s + 5 < W.heap.size := h.hn.lt
end

/-- What a letter's first meeting leaves. -/
def MeetPost (s g n : Nat) (p nw' : Int) (cs' : Array Value) (nm : Nat) (f' : Ltr → Option Value) (w : World) (e : Ending) (w' : World) : Prop :=
  e = .returned (.tuple #[]) ∧ KB w' s g n (p + 1) nw' cs' (nm + 1) f' ∧ Only (fun k => k = s + 4 ∨ k = s + 5 ∨ k = g ∨ k = s + 2) w w'

abbrev plV (a b : Int) : Value := .agg #[.int .i64 a, .int .i64 b]
theorem zero_places (w : World) : (zeroValue 143).run Tryd.prog w = .ok (plV 0 0) w := by kernel_rfl

/-- While the closure runs: its letter lies in block B, its places in the next one. -/
structure MS (w W : World) (s g n : Nat) (p nw : Int) (cs : Array Value) (nm : Nat) (f : Ltr → Option Value) (B : Nat) (q : Ltr) (x y : Int) : Prop where
  kb : KB W s g n p nw cs nm f
  lt : s + 5 < B
  hl : Blk W B 141 #[.bool q.1, .string q.2]
  hx : Blk W (B + 1) 143 #[.int .i64 x, .int .i64 y]
  on : Only (fun k => k = s + 4 ∨ k = s + 5 ∨ k = g ∨ k = s + 2) w W
  sz : w.heap.size = B

section
variable {w W W' : World} {s g n nm B : Nat} {p nw x y : Int} {cs : Array Value} {f : Ltr → Option Value} {q : Ltr}
theorem MS.setP (h : MS w W s g n p nw cs nm f B q x y) (p' : Int) : MS w (W.setCell ⟨s + 4, 0, none⟩ (.int .i64 p')) s g n p' nw cs nm f B q x y := by
  have h1 := h.lt; have h2 := h.kb.lt
  exact ⟨h.kb.setP _, h.lt, h.hl.off (by omega) _, h.hx.off (by omega) _, h.on.setCell (.inl (.inl rfl)) _, h.sz⟩
theorem MS.setN (h : MS w W s g n p nw cs nm f B q x y) (p' : Int) : MS w (W.setCell ⟨s + 5, 0, none⟩ (.int .i64 p')) s g n p p' cs nm f B q x y := by
  have h1 := h.lt; have h2 := h.kb.lt
  exact ⟨h.kb.setN _, h.lt, h.hl.off (by omega) _, h.hx.off (by omega) _, h.on.setCell (.inl (.inr (.inl rfl))) _, h.sz⟩
theorem MS.setG (h : MS w W s g n p nw cs nm f B q x y) (i : Nat) (v : Value) : MS w (W.setCell ⟨g, i, none⟩ v) s g n p nw (cs.setIfInBounds i v) nm f B q x y := by
  have h1 := h.lt; have h2 := h.kb.lt
  exact ⟨h.kb.setG _ _, h.lt, h.hl.off (by omega) _, h.hx.off (by omega) _, h.on.setCell (.inl (.inr (.inr (.inl rfl)))) _, h.sz⟩
theorem MS.setX (h : MS w W s g n p nw cs nm f B q x y) (x' : Int) : MS w (W.setCell ⟨B + 1, 0, none⟩ (.int .i64 x')) s g n p nw cs nm f B q x' y := by
  have h1 := h.lt; have h2 := h.kb.lt; have h3 := h.sz
  exact ⟨h.kb.setO (by omega) _, h.lt, h.hl.off (by omega) _, h.hx.put 0 _, h.on.setCell (.inr (by simp; omega)) _, h.sz⟩
theorem MS.setY (h : MS w W s g n p nw cs nm f B q x y) (y' : Int) : MS w (W.setCell ⟨B + 1, 1, none⟩ (.int .i64 y')) s g n p nw cs nm f B q x y' := by
  have h1 := h.lt; have h2 := h.kb.lt; have h3 := h.sz
  exact ⟨h.kb.setO (by omega) _, h.lt, h.hl.off (by omega) _, h.hx.put 1 _, h.on.setCell (.inr (by simp; omega)) _, h.sz⟩
/-- What the closure reads there. -/
theorem MS.reads (h : MS w W s g n p nw cs nm f B q x y) : W.cell? ⟨s + 4, 0, none⟩ = some (.int .i64 p) ∧ W.frozen? ⟨s + 4, 0, none⟩ = false ∧ W.cell? ⟨s + 3, 0, none⟩ = some (.map (some (s + 2))) ∧
    W.cell? ⟨s + 5, 0, none⟩ = some (.int .i64 nw) ∧ W.frozen? ⟨s + 5, 0, none⟩ = false ∧ W.cell? ⟨s, 0, none⟩ = some (.slice (some ⟨g, 0, none⟩) n n) ∧ (∀ i, W.frozen? ⟨g, i, none⟩ = false) ∧ (∀ i, W.cell? ⟨g, i, none⟩ = cs[i]?) ∧
    W.cell? ⟨B, 0, none⟩ = some (.bool q.1) ∧ W.cell? ⟨B, 1, none⟩ = some (.string q.2) ∧ W.cell? ⟨B + 1, 0, none⟩ = some (.int .i64 x) ∧ W.cell? ⟨B + 1, 1, none⟩ = some (.int .i64 y) ∧ W.frozen? ⟨B + 1, 0, none⟩ = false ∧ W.frozen? ⟨B + 1, 1, none⟩ = false := by
  obtain ⟨k, _, hl, hx, _, _⟩ := h
  refine ⟨by simpa using k.hp.cell 0, k.hp.frozen 0, by simpa using k.hm.cell 0, by simpa using k.hn.cell 0, k.hn.frozen 0, by simpa using k.hk.cell 0, k.hg.frozen, k.hg.cell, by simpa using hl.cell 0, by simpa using hl.cell 1, by simpa using hx.cell 0, by simpa using hx.cell 1, hx.frozen 0, hx.frozen 1⟩
end

set_option maxHeartbeats 4000000 in
theorem meet0_c (q : Ltr) (hq : FineL q) (i s g n : Nat) (p : Nat) (nw : Int) (cs : Array Value) (nm : Nat) (f : Ltr → Option Value) (w : World) (h : KB w s g n p nw cs nm f) (hi : i < n) (hn : cs.size = n) (hp : p ≤ 100000) (hnm : nm ≤ 100000) (hnn : n ≤ 100000) (hf : f q = none) :
    Calls Tryd.prog 76 #[lv q, .int .i64 i, .pointer (some ⟨s + 4, 0, none⟩), .pointer (some ⟨s + 3, 0, none⟩), .pointer (some ⟨s + 5, 0, none⟩), .pointer (some ⟨s, 0, none⟩)] w
      (MeetPost s g n p (p + 1) (cs.setIfInBounds i (.bool true)) nm (fun x => if x = q then some (plV (p + 1) (p + 1)) else f x) w) := by
  have hsz := h.size
  have hlt := h.lt
  obtain ⟨W1, hW1⟩ : ∃ W1, w.alloc (.cells #[.bool q.1, .string q.2] 141) = W1 := ⟨_, rfl⟩
  have k1 : KB W1 s g n p nw cs nm f := by rw [← hW1]; exact h.kept ((Kept.refl w).alloc _)
  have q1 : Blk W1 w.heap.size 141 #[.bool q.1, .string q.2] := by rw [← hW1]; exact Blk.new w _ _
  have s1 : W1.heap.size = w.heap.size + 1 := by rw [← hW1]; simp
  have o1 : Only (fun k => k = s + 4 ∨ k = s + 5 ∨ k = g ∨ k = s + 2) w W1 := by rw [← hW1]; exact (Only.refl _ w).alloc _
  have a0 := k1.hp.cell 0
  have a1 := k1.hp.frozen 0
  simp only [List.getElem?_toArray, List.getElem?_cons_zero] at a0
  obtain ⟨W2, hW2⟩ : ∃ W2, W1.setCell ⟨s + 4, 0, none⟩ (.int .i64 ((p : Int) + 1)) = W2 := ⟨_, rfl⟩
  have k2 : KB W2 s g n (p + 1) nw cs nm f := by rw [← hW2]; exact k1.setP _
  have q2 : Blk W2 w.heap.size 141 #[.bool q.1, .string q.2] := by rw [← hW2]; exact q1.off (by omega) _
  have s2 : W2.heap.size = w.heap.size + 1 := by rw [← hW2]; simpa using s1
  have o2 : Only (fun k => k = s + 4 ∨ k = s + 5 ∨ k = g ∨ k = s + 2) w W2 := by rw [← hW2]; exact o1.setCell (.inl (.inl rfl)) _
  have b0 := k2.hm.cell 0
  have b1 := q2.cell 0
  have b2 := q2.cell 1
  simp only [List.getElem?_toArray, List.getElem?_cons_zero, List.getElem?_cons_succ] at b0 b1 b2
  have hlook := k2.map.look Tryd.underlying139 (zero_places W2) q hq
  rw [hf] at hlook
  simp only [Option.getD_none] at hlook
  obtain ⟨W3, hW3⟩ : ∃ W3, W2.alloc (.cells #[.int .i64 0, .int .i64 0] 143) = W3 := ⟨_, rfl⟩
  have k3 : MS w W3 s g n (p + 1) nw cs nm f w.heap.size q 0 0 := by
    rw [← hW3]
    refine ⟨k2.kept ((Kept.refl _).alloc _), by omega, q2.alloc _, ?_, o2.alloc _, rfl⟩
    have := Blk.new W2 143 #[.int .i64 0, .int .i64 0]
    rwa [s2] at this
  obtain ⟨W4, hW4⟩ : ∃ W4, (W3.setCell ⟨w.heap.size + 1, 0, none⟩ (.int .i64 0)).setCell ⟨w.heap.size + 1, 1, none⟩ (.int .i64 0) = W4 := ⟨_, rfl⟩
  have k4 : MS w W4 s g n (p + 1) nw cs nm f w.heap.size q 0 0 := by rw [← hW4]; exact (k3.setX 0).setY 0
  obtain ⟨_, c0, c1, _⟩ := k3.reads.2.2.2.2.2.2.2.2.2.2
  obtain ⟨c2, c3⟩ := k3.reads.2.2.2.2.2.2.2.2.2.2.2.2
  have d0 := k4.reads
  obtain ⟨W5, hW5⟩ : ∃ W5, W4.setCell ⟨w.heap.size + 1, 0, none⟩ (.int .i64 ((p : Int) + 1)) = W5 := ⟨_, rfl⟩
  have k5 : MS w W5 s g n (p + 1) nw cs nm f w.heap.size q (p + 1) 0 := by rw [← hW5]; exact k4.setX _
  have e0 := k5.reads
  obtain ⟨W6, hW6⟩ : ∃ W6, W5.setCell ⟨s + 5, 0, none⟩ (.int .i64 ((p : Int) + 1)) = W6 := ⟨_, rfl⟩
  have k6 : MS w W6 s g n (p + 1) (p + 1) cs nm f w.heap.size q (p + 1) 0 := by rw [← hW6]; exact k5.setN _
  have f0 := k6.reads
  obtain ⟨W7, hW7⟩ : ∃ W7, W6.setCell ⟨g, i, none⟩ (.bool true) = W7 := ⟨_, rfl⟩
  have k7 : MS w W7 s g n (p + 1) (p + 1) (cs.setIfInBounds i (.bool true)) nm f w.heap.size q (p + 1) 0 := by rw [← hW7]; exact k6.setG _ _
  have g0 := k7.reads
  obtain ⟨W8, hW8⟩ : ∃ W8, W7.setCell ⟨w.heap.size + 1, 1, none⟩ (.int .i64 ((p : Int) + 1)) = W8 := ⟨_, rfl⟩
  have k8 : MS w W8 s g n (p + 1) (p + 1) (cs.setIfInBounds i (.bool true)) nm f w.heap.size q (p + 1) (p + 1) := by rw [← hW8]; exact k7.setY _
  have h0 := k8.reads
  have gx : ∃ v, W6.cell? ⟨g, i, none⟩ = some v := by
    refine ⟨cs[i]'(by omega), ?_⟩
    rw [f0.2.2.2.2.2.2.2.1 i]
    exact Array.getElem?_eq_getElem (by omega)
  obtain ⟨gv, gx⟩ := gx
  obtain ⟨W9, hst, hm9, hg9⟩ := k8.kb.map.store Tryd.underlying139 (by unfold maxLen; omega) q hq (plV (p + 1) (p + 1))
  have FIN := Lib.hid (show MeetPost s g n p (p + 1) (cs.setIfInBounds i (.bool true)) nm (fun x => if x = q then some (plV (p + 1) (p + 1)) else f x) w (.returned (.tuple #[])) W9 from by
    have ho : Only (· = s + 2) W8 W9 := (Only.refl _ W8).grown hg9 fun k e => .inl (Option.some.inj e).symm
    refine ⟨rfl, ⟨hlt, k8.kb.hp.only ho (by omega), k8.kb.hm.only ho (by omega), k8.kb.hn.only ho (by omega), k8.kb.hk.only ho (by omega), k8.kb.hg.only ho (by omega), hm9⟩, k8.on.trans (ho.mono fun k _ e => .inr (.inr (.inr e)))⟩)
  have HW := Lib.hid (And.intro hW1 (And.intro hW2 (And.intro hW3 (And.intro hW4 (And.intro hW5 (And.intro hW6 (And.intro hW7 hW8)))))))
  clear hW1 hW2 hW3 hW4 hW5 hW6 hW7 hW8 k1 k2 k3 k4 k5 k6 k7 k8 q1 q2 o1 o2 s1 h hm9 hg9
  obtain ⟨d1, d2, d3, d4, d5, d6, d7, d8, d9, d10, d11, d12, d13, d14⟩ := d0
  obtain ⟨e1, e2, e3, e4, e5, e6, e7, e8, e9, e10, e11, e12, e13, e14⟩ := e0
  obtain ⟨f1, f2, f3, f4, f5, f6, f7, f8, f9, f10, f11, f12, f13, f14⟩ := f0
  obtain ⟨g1, g2, g3, g4, g5, g6, g7, g8, g9, g10, g11, g12, g13, g14⟩ := g0
  obtain ⟨h1, h2, h3, h4, h5, h6, h7, h8, h9, h10, h11, h12, h13, h14⟩ := h0
  have f7' := f7 i
  clear d7 d8 e7 e8 f7 f8 g7 g8 h7 h8
  go_enter Tryd.func76, Tryd.ntmps76
  go_wp2_with (first | rw [HW.out.1] | rw [HW.out.2.1] | rw [HW.out.2.2.1] | rw [HW.out.2.2.2.1] | rw [HW.out.2.2.2.2.1] | rw [HW.out.2.2.2.2.2.1] | rw [HW.out.2.2.2.2.2.2.1] | rw [HW.out.2.2.2.2.2.2.2])
  go_returns
  exact FIN.out

set_option maxHeartbeats 4000000 in
theorem meet1_c (q : Ltr) (hq : FineL q) (i s g n : Nat) (p : Nat) (nw : Int) (cs : Array Value) (nm : Nat) (f : Ltr → Option Value) (w : World) (h : KB w s g n p nw cs nm f) (hi : i < n) (hn : cs.size = n) (hp : p ≤ 100000) (hnm : nm ≤ 100000) (hnn : n ≤ 100000) (a b : Int) (ha : 1 ≤ a) (hb : b < nw) (hf : f q = some (plV a b)) :
    Calls Tryd.prog 76 #[lv q, .int .i64 i, .pointer (some ⟨s + 4, 0, none⟩), .pointer (some ⟨s + 3, 0, none⟩), .pointer (some ⟨s + 5, 0, none⟩), .pointer (some ⟨s, 0, none⟩)] w
      (MeetPost s g n p nw (cs.setIfInBounds i (.bool true)) nm (fun x => if x = q then some (plV a (p + 1)) else f x) w) := by
  have hsz := h.size
  have hlt := h.lt
  obtain ⟨W1, hW1⟩ : ∃ W1, w.alloc (.cells #[.bool q.1, .string q.2] 141) = W1 := ⟨_, rfl⟩
  have k1 : KB W1 s g n p nw cs nm f := by rw [← hW1]; exact h.kept ((Kept.refl w).alloc _)
  have q1 : Blk W1 w.heap.size 141 #[.bool q.1, .string q.2] := by rw [← hW1]; exact Blk.new w _ _
  have s1 : W1.heap.size = w.heap.size + 1 := by rw [← hW1]; simp
  have o1 : Only (fun k => k = s + 4 ∨ k = s + 5 ∨ k = g ∨ k = s + 2) w W1 := by rw [← hW1]; exact (Only.refl _ w).alloc _
  have a0 := k1.hp.cell 0
  have a1 := k1.hp.frozen 0
  simp only [List.getElem?_toArray, List.getElem?_cons_zero] at a0
  obtain ⟨W2, hW2⟩ : ∃ W2, W1.setCell ⟨s + 4, 0, none⟩ (.int .i64 ((p : Int) + 1)) = W2 := ⟨_, rfl⟩
  have k2 : KB W2 s g n (p + 1) nw cs nm f := by rw [← hW2]; exact k1.setP _
  have q2 : Blk W2 w.heap.size 141 #[.bool q.1, .string q.2] := by rw [← hW2]; exact q1.off (by omega) _
  have s2 : W2.heap.size = w.heap.size + 1 := by rw [← hW2]; simpa using s1
  have o2 : Only (fun k => k = s + 4 ∨ k = s + 5 ∨ k = g ∨ k = s + 2) w W2 := by rw [← hW2]; exact o1.setCell (.inl (.inl rfl)) _
  have b0 := k2.hm.cell 0
  have b1 := q2.cell 0
  have b2 := q2.cell 1
  simp only [List.getElem?_toArray, List.getElem?_cons_zero, List.getElem?_cons_succ] at b0 b1 b2
  have hlook := k2.map.look Tryd.underlying139 (zero_places W2) q hq
  rw [hf] at hlook
  simp only [Option.getD_some] at hlook
  have ha0 : ¬ a = 0 := by omega
  obtain ⟨W3, hW3⟩ : ∃ W3, W2.alloc (.cells #[.int .i64 0, .int .i64 0] 143) = W3 := ⟨_, rfl⟩
  have k3 : MS w W3 s g n (p + 1) nw cs nm f w.heap.size q 0 0 := by
    rw [← hW3]
    refine ⟨k2.kept ((Kept.refl _).alloc _), by omega, q2.alloc _, ?_, o2.alloc _, rfl⟩
    have := Blk.new W2 143 #[.int .i64 0, .int .i64 0]
    rwa [s2] at this
  obtain ⟨W4, hW4⟩ : ∃ W4, (W3.setCell ⟨w.heap.size + 1, 0, none⟩ (.int .i64 a)).setCell ⟨w.heap.size + 1, 1, none⟩ (.int .i64 b) = W4 := ⟨_, rfl⟩
  have k4 : MS w W4 s g n (p + 1) nw cs nm f w.heap.size q a b := by rw [← hW4]; exact (k3.setX a).setY b
  obtain ⟨_, c0, c1, _⟩ := k3.reads.2.2.2.2.2.2.2.2.2.2
  obtain ⟨c2, c3⟩ := k3.reads.2.2.2.2.2.2.2.2.2.2.2.2
  have d0 := k4.reads
  obtain ⟨W7, hW7⟩ : ∃ W7, W4.setCell ⟨g, i, none⟩ (.bool true) = W7 := ⟨_, rfl⟩
  have k7 : MS w W7 s g n (p + 1) nw (cs.setIfInBounds i (.bool true)) nm f w.heap.size q a b := by rw [← hW7]; exact k4.setG _ _
  have g0 := k7.reads
  obtain ⟨W8, hW8⟩ : ∃ W8, W7.setCell ⟨w.heap.size + 1, 1, none⟩ (.int .i64 ((p : Int) + 1)) = W8 := ⟨_, rfl⟩
  have k8 : MS w W8 s g n (p + 1) nw (cs.setIfInBounds i (.bool true)) nm f w.heap.size q a (p + 1) := by rw [← hW8]; exact k7.setY _
  have h0 := k8.reads
  have gx : ∃ v, W4.cell? ⟨g, i, none⟩ = some v := by
    refine ⟨cs[i]'(by omega), ?_⟩
    rw [d0.2.2.2.2.2.2.2.1 i]
    exact Array.getElem?_eq_getElem (by omega)
  obtain ⟨gv, gx⟩ := gx
  obtain ⟨W9, hst, hm9, hg9⟩ := k8.kb.map.store Tryd.underlying139 (by unfold maxLen; omega) q hq (plV a (p + 1))
  have FIN := Lib.hid (show MeetPost s g n p nw (cs.setIfInBounds i (.bool true)) nm (fun x => if x = q then some (plV a (p + 1)) else f x) w (.returned (.tuple #[])) W9 from by
    have ho : Only (· = s + 2) W8 W9 := (Only.refl _ W8).grown hg9 fun k e => .inl (Option.some.inj e).symm
    refine ⟨rfl, ⟨hlt, k8.kb.hp.only ho (by omega), k8.kb.hm.only ho (by omega), k8.kb.hn.only ho (by omega), k8.kb.hk.only ho (by omega), k8.kb.hg.only ho (by omega), hm9⟩, k8.on.trans (ho.mono fun k _ e => .inr (.inr (.inr e)))⟩)
  have HW := Lib.hid (And.intro hW1 (And.intro hW2 (And.intro hW3 (And.intro hW4 (And.intro hW7 hW8)))))
  clear hW1 hW2 hW3 hW4 hW7 hW8 k1 k2 k3 k4 k7 k8 q1 q2 o1 o2 s1 h hm9 hg9
  obtain ⟨d1, d2, d3, d4, d5, d6, d7, d8, d9, d10, d11, d12, d13, d14⟩ := d0
  obtain ⟨g1, g2, g3, g4, g5, g6, g7, g8, g9, g10, g11, g12, g13, g14⟩ := g0
  obtain ⟨h1, h2, h3, h4, h5, h6, h7, h8, h9, h10, h11, h12, h13, h14⟩ := h0
  have d7' := d7 i
  clear d7 d8 g7 g8 h7 h8
  go_enter Tryd.func76, Tryd.ntmps76
  go_wp2_with (first | rw [HW.out.1] | rw [HW.out.2.1] | rw [HW.out.2.2.1] | rw [HW.out.2.2.2.1] | rw [HW.out.2.2.2.2.1] | rw [HW.out.2.2.2.2.2])
  go_returns
  exact FIN.out

set_option maxHeartbeats 4000000 in
theorem meet2_c (q : Ltr) (hq : FineL q) (i s g n : Nat) (p : Nat) (nw : Int) (cs : Array Value) (nm : Nat) (f : Ltr → Option Value) (w : World) (h : KB w s g n p nw cs nm f) (hi : i < n) (hn : cs.size = n) (hp : p ≤ 100000) (hnm : nm ≤ 100000) (hnn : n ≤ 100000) (a b : Int) (ha : 1 ≤ a) (hb : ¬ b < nw) (hf : f q = some (plV a b)) :
    Calls Tryd.prog 76 #[lv q, .int .i64 i, .pointer (some ⟨s + 4, 0, none⟩), .pointer (some ⟨s + 3, 0, none⟩), .pointer (some ⟨s + 5, 0, none⟩), .pointer (some ⟨s, 0, none⟩)] w
      (MeetPost s g n p nw cs nm (fun x => if x = q then some (plV a (p + 1)) else f x) w) := by
  have hsz := h.size
  have hlt := h.lt
  obtain ⟨W1, hW1⟩ : ∃ W1, w.alloc (.cells #[.bool q.1, .string q.2] 141) = W1 := ⟨_, rfl⟩
  have k1 : KB W1 s g n p nw cs nm f := by rw [← hW1]; exact h.kept ((Kept.refl w).alloc _)
  have q1 : Blk W1 w.heap.size 141 #[.bool q.1, .string q.2] := by rw [← hW1]; exact Blk.new w _ _
  have s1 : W1.heap.size = w.heap.size + 1 := by rw [← hW1]; simp
  have o1 : Only (fun k => k = s + 4 ∨ k = s + 5 ∨ k = g ∨ k = s + 2) w W1 := by rw [← hW1]; exact (Only.refl _ w).alloc _
  have a0 := k1.hp.cell 0
  have a1 := k1.hp.frozen 0
  simp only [List.getElem?_toArray, List.getElem?_cons_zero] at a0
  obtain ⟨W2, hW2⟩ : ∃ W2, W1.setCell ⟨s + 4, 0, none⟩ (.int .i64 ((p : Int) + 1)) = W2 := ⟨_, rfl⟩
  have k2 : KB W2 s g n (p + 1) nw cs nm f := by rw [← hW2]; exact k1.setP _
  have q2 : Blk W2 w.heap.size 141 #[.bool q.1, .string q.2] := by rw [← hW2]; exact q1.off (by omega) _
  have s2 : W2.heap.size = w.heap.size + 1 := by rw [← hW2]; simpa using s1
  have o2 : Only (fun k => k = s + 4 ∨ k = s + 5 ∨ k = g ∨ k = s + 2) w W2 := by rw [← hW2]; exact o1.setCell (.inl (.inl rfl)) _
  have b0 := k2.hm.cell 0
  have b1 := q2.cell 0
  have b2 := q2.cell 1
  simp only [List.getElem?_toArray, List.getElem?_cons_zero, List.getElem?_cons_succ] at b0 b1 b2
  have hlook := k2.map.look Tryd.underlying139 (zero_places W2) q hq
  rw [hf] at hlook
  simp only [Option.getD_some] at hlook
  have ha0 : ¬ a = 0 := by omega
  obtain ⟨W3, hW3⟩ : ∃ W3, W2.alloc (.cells #[.int .i64 0, .int .i64 0] 143) = W3 := ⟨_, rfl⟩
  have k3 : MS w W3 s g n (p + 1) nw cs nm f w.heap.size q 0 0 := by
    rw [← hW3]
    refine ⟨k2.kept ((Kept.refl _).alloc _), by omega, q2.alloc _, ?_, o2.alloc _, rfl⟩
    have := Blk.new W2 143 #[.int .i64 0, .int .i64 0]
    rwa [s2] at this
  obtain ⟨W4, hW4⟩ : ∃ W4, (W3.setCell ⟨w.heap.size + 1, 0, none⟩ (.int .i64 a)).setCell ⟨w.heap.size + 1, 1, none⟩ (.int .i64 b) = W4 := ⟨_, rfl⟩
  have k4 : MS w W4 s g n (p + 1) nw cs nm f w.heap.size q a b := by rw [← hW4]; exact (k3.setX a).setY b
  obtain ⟨_, c0, c1, _⟩ := k3.reads.2.2.2.2.2.2.2.2.2.2
  obtain ⟨c2, c3⟩ := k3.reads.2.2.2.2.2.2.2.2.2.2.2.2
  have d0 := k4.reads
  obtain ⟨W8, hW8⟩ : ∃ W8, W4.setCell ⟨w.heap.size + 1, 1, none⟩ (.int .i64 ((p : Int) + 1)) = W8 := ⟨_, rfl⟩
  have k8 : MS w W8 s g n (p + 1) nw cs nm f w.heap.size q a (p + 1) := by rw [← hW8]; exact k4.setY _
  have h0 := k8.reads
  obtain ⟨W9, hst, hm9, hg9⟩ := k8.kb.map.store Tryd.underlying139 (by unfold maxLen; omega) q hq (plV a (p + 1))
  have FIN := Lib.hid (show MeetPost s g n p nw cs nm (fun x => if x = q then some (plV a (p + 1)) else f x) w (.returned (.tuple #[])) W9 from by
    have ho : Only (· = s + 2) W8 W9 := (Only.refl _ W8).grown hg9 fun k e => .inl (Option.some.inj e).symm
    refine ⟨rfl, ⟨hlt, k8.kb.hp.only ho (by omega), k8.kb.hm.only ho (by omega), k8.kb.hn.only ho (by omega), k8.kb.hk.only ho (by omega), k8.kb.hg.only ho (by omega), hm9⟩, k8.on.trans (ho.mono fun k _ e => .inr (.inr (.inr e)))⟩)
  have HW := Lib.hid (And.intro hW1 (And.intro hW2 (And.intro hW3 (And.intro hW4 hW8))))
  clear hW1 hW2 hW3 hW4 hW8 k1 k2 k3 k4 k8 q1 q2 o1 o2 s1 h hm9 hg9
  obtain ⟨d1, d2, d3, d4, d5, d6, d7, d8, d9, d10, d11, d12, d13, d14⟩ := d0
  obtain ⟨h1, h2, h3, h4, h5, h6, h7, h8, h9, h10, h11, h12, h13, h14⟩ := h0
  clear d7 d8 h7 h8
  go_enter Tryd.func76, Tryd.ntmps76
  go_wp2_with (first | rw [HW.out.1] | rw [HW.out.2.1] | rw [HW.out.2.2.1] | rw [HW.out.2.2.2.1] | rw [HW.out.2.2.2.2])
  go_returns
  exact FIN.out

end Go.Proofs.YtdceafncncgfbaaDoor
