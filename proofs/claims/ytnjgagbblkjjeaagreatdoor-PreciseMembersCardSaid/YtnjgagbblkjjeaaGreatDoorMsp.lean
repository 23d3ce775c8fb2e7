/- What table.Methods has collected so far: a row of methods of one's own, the map of their places; and what one method more makes of it. -/
import Derived.Test.YtnjgagbblkjjeaaGreatDoorCpy
import Derived.Test.YtnjgagbblkjjeaaGreatDoorMpl
set_option linter.unusedSimpArgs false
set_option linter.unusedVariables false
set_option maxRecDepth 100000
namespace Go.Proofs.YtnjgagbblkjjeaaGreatDoor
open Go.ChangeShapes Go.WideShapes Go.ChangeAt Go.RowKit Go.Shelf

theorem owns_set {w : World} {base k n g c : Nat} {e : TypeId} {xs : List Value} (h : w.ownsRow base e k (.slice (some ⟨g, 0, none⟩) n c) n xs) {i : Nat} (hi : i < n * k) (u : Value) : (w.setCell ⟨g, i, none⟩ u).ownsRow base e k (.slice (some ⟨g, 0, none⟩) n c) n (xs.set i u) := by
  refine ⟨by rw [List.length_set]; exact h.1, ?_⟩
  rcases h.2 with ⟨h0, _⟩ | ⟨g', cap, cur, hv, h1, h2, h3, h4, h5, h6⟩
  · cases h0
  · cases hv
    refine .inr ⟨g, c, cur.setIfInBounds i u, rfl, h1, ?_, h3, h4, by simpa using h5, ?_⟩
    · simp [World.setCell, Array.getElem?_modify, h2]
    · rw [Array.toList_setIfInBounds, List.take_set, h6]

theorem flat_set {α : Type} (f : α → List Value) {a b c : Value} {y : α} (hf : ∀ x, (f x).length = 3) (hy : f y = [a, b, c]) : ∀ (l : List α) (k : Nat), k < l.length → (((l.flatMap f).set (k * 3) a).set (k * 3 + 1) b).set (k * 3 + 2) c = (l.set k y).flatMap f
  | [], k, h => by simp at h
  | x :: r, 0, _ => by
    have h3 := hf x
    match hx : f x, h3 with
    | [p, q, s], _ => simp [hx, hy]
  | x :: r, k + 1, h => by
    have h3 := hf x
    have ih := flat_set f hf hy r k (by simpa using h)
    match hx : f x, h3 with
    | [p, q, s], _ =>
      rw [List.set_cons_succ, List.flatMap_cons, List.flatMap_cons, hx, ← ih]
      rw [show (k + 1) * 3 = k * 3 + 1 + 1 + 1 by omega]
      rfl

def mCells (x : Tab.M × Value) : List Value := [.string x.1.name, x.2, .string x.1.res]
theorem mCells_len (x : Tab.M × Value) : (mCells x).length = 3 := rfl

theorem info_sig : (Tryz.prog.info? 53).map (fun i => (i.zero, i.size, i.bytes)) = some (some (.agg #[.string ⟨#[]⟩, .slice none 0 0, .string ⟨#[]⟩]), 3, 56) := by kernel_rfl

/-- Where a method stands. -/
def plF (ms : List (Tab.M × Value)) (s : ByteArray) : Option Value := (Tab.ix Tab.M.name (ms.map Prod.fst) s).map fun k => .agg #[.int .i64 k]

/-- The methods so far. -/
structure MsI (w : World) (n₁ : Nat) (ms : List (Tab.M × Value)) (v : Value) (W : World) : Prop where
  box : Blk W w.heap.size 44 #[v]
  row : W.ownsRow n₁ 53 3 v ms.length (ms.flatMap mCells)
  mbox : Blk W (w.heap.size + 1 + 1) 123 #[.map (some (w.heap.size + 1))]
  map : MapF Tryz.prog 9 (w.heap.size + 1) ms.length (plF ms) W
  rows : ∀ x ∈ ms, W.ownsRow n₁ 50 2 x.2 x.1.params.length (x.1.params.flatMap vCells)
  kept : Kept w W

/-- What the loop may turn ahead of what it makes itself: the list's box, and the map. -/
abbrev MsB (w : World) (k : Nat) : Prop := k = w.heap.size ∨ k = w.heap.size + 1

theorem owns_typed {S : Nat → Prop} {X Y : World} {base k n : Nat} {e : TypeId} {v : Value} {xs : List Value} (h : X.ownsRow base e k v n xs) (ho : Only S X Y) (hs : ∀ g cs fr, S g → X.heap[g]? ≠ some (.cells cs e fr)) : Y.ownsRow base e k v n xs := by
  refine ⟨h.1, ?_⟩
  rcases h.2 with hn | ⟨g, cap, cur, rfl, hb, hgg, rest⟩
  · exact .inl hn
  · exact .inr ⟨g, cap, cur, rfl, hb, ho.same hgg (fun h => hs g _ _ h hgg), rest⟩

theorem MsI.keep {w A B : World} {n₁ : Nat} {ms : List (Tab.M × Value)} {v : Value} {S : Nat → Prop} (h : MsI w n₁ ms v A) (ho : Only S A B) (hs : ∀ k, S k → w.heap.size + 3 ≤ k ∧ ¬ n₁ ≤ k) : MsI w n₁ ms v B :=
  ⟨h.box.only ho (fun e => by have := hs _ e; omega), owns_only h.row ho (fun g hg e => (hs _ e).2 hg), h.mbox.only ho (fun e => by have := hs _ e; omega), h.map.only ho (fun e => by have := hs _ e; omega),
    fun x hx => owns_only (h.rows x hx) ho (fun g hg e => (hs _ e).2 hg), h.kept.onlyS ho (fun k e => by have := hs k e; omega)⟩
theorem MsI.of_kept {w A B : World} {n₁ : Nat} {ms : List (Tab.M × Value)} {v : Value} (h : MsI w n₁ ms v A) (k : Kept A B) : MsI w n₁ ms v B := h.keep (S := fun _ => False) (Only.of_kept k) (fun _ h => h.elim)

theorem ix_fst_lt {ms : List (Tab.M × Value)} {s : ByteArray} {k : Nat} (h : Tab.ix Tab.M.name (ms.map Prod.fst) s = some k) : k < ms.length := by
  obtain ⟨h1, _⟩ := Tab.ix_lt h
  simpa using h1

/-- Names: the first place of a name, when the thing there is exchanged for another one of that name. -/
theorem ix_set {l : List Tab.M} {m : Tab.M} {k : Nat} (h : Tab.ix Tab.M.name l m.name = some k) (s : ByteArray) : Tab.ix Tab.M.name (l.set k m) s = Tab.ix Tab.M.name l s := by
  have e : (l.set k m).map Tab.M.name = l.map Tab.M.name := by
    rw [List.map_set]
    obtain ⟨h1, h2⟩ := Tab.ix_lt h
    refine List.ext_getElem? fun j => ?_
    rw [List.getElem?_set]
    split
    · rename_i hj
      subst hj
      simp [h1, h2]
    · rfl
  have g : ∀ l : List Tab.M, Tab.ix Tab.M.name l s = (l.map Tab.M.name).findIdx? fun x => decide (x = s) := by
    intro l
    unfold Tab.ix
    rw [List.findIdx?_map]; rfl
  rw [g, g, e]
theorem ix_snoc {l : List Tab.M} {m : Tab.M} (h : Tab.ix Tab.M.name l m.name = none) (s : ByteArray) : Tab.ix Tab.M.name (l ++ [m]) s = if s = m.name then some l.length else Tab.ix Tab.M.name l s := by
  unfold Tab.ix
  rw [List.findIdx?_append]
  by_cases hs : s = m.name
  · subst hs
    rw [if_pos rfl, show l.findIdx? (fun x => decide (x.name = m.name)) = none from h]
    simp
  · rw [if_neg hs]
    have : ¬ m.name = s := fun e => hs e.symm
    simp [this]

theorem MsI.blk_row {w X : World} {n₁ : Nat} {ms : List (Tab.M × Value)} {g n c : Nat} (h : MsI w n₁ ms (.slice (some ⟨g, 0, none⟩) n c) X) : n₁ ≤ g ∧ n = ms.length ∧ ∃ cur, X.heap[g]? = some (.cells cur 53 (0, 0)) := by
  rcases h.row.2 with ⟨h0, _⟩ | ⟨g', cap, cur, hv, h1, h2, _⟩
  · cases h0
  · cases hv
    exact ⟨h1, rfl, cur, h2⟩

/-- A method more whose name has occurred: it takes that one's place. -/
theorem ms_old {w X : World} {n₁ : Nat} {ms : List (Tab.M × Value)} {g n c k : Nat} {x : Tab.M} {p : Value} (h : MsI w n₁ ms (.slice (some ⟨g, 0, none⟩) n c) X) (hn : w.heap.size + 3 ≤ n₁) (hix : Tab.ix Tab.M.name (ms.map Prod.fst) x.name = some k)
    (hp : X.ownsRow n₁ 50 2 p x.params.length (x.params.flatMap vCells)) :
    MsI w n₁ (ms.set k (x, p)) (.slice (some ⟨g, 0, none⟩) n c) (((X.setCell ⟨g, k * 3, none⟩ (.string x.name)).setCell ⟨g, k * 3 + 1, none⟩ p).setCell ⟨g, k * 3 + 2, none⟩ (.string x.res)) ∧
      Only (fun j => MsB w j ∨ n₁ ≤ j) X (((X.setCell ⟨g, k * 3, none⟩ (.string x.name)).setCell ⟨g, k * 3 + 1, none⟩ p).setCell ⟨g, k * 3 + 2, none⟩ (.string x.res)) := by
  obtain ⟨hg, rfl, cur, hcur⟩ := h.blk_row
  have hk := ix_fst_lt hix
  have hO : Only (· = g) X (((X.setCell ⟨g, k * 3, none⟩ (.string x.name)).setCell ⟨g, k * 3 + 1, none⟩ p).setCell ⟨g, k * 3 + 2, none⟩ (.string x.res)) := (((Only.refl _ X).put _ _).put _ _).put _ _
  have hrow := owns_set (owns_set (owns_set h.row (i := k * 3) (by omega) (.string x.name)) (i := k * 3 + 1) (by omega) p) (i := k * 3 + 2) (by omega) (.string x.res)
  rw [flat_set mCells (y := (x, p)) mCells_len rfl ms k hk] at hrow
  have hty : ∀ {q : Value} {m : Nat} {xs : List Value}, X.ownsRow n₁ 50 2 q m xs → (((X.setCell ⟨g, k * 3, none⟩ (.string x.name)).setCell ⟨g, k * 3 + 1, none⟩ p).setCell ⟨g, k * 3 + 2, none⟩ (.string x.res)).ownsRow n₁ 50 2 q m xs := fun hq =>
    owns_typed hq hO fun g' cs fr e hcs => by
      subst e
      rw [hcur] at hcs
      injection hcs with hcs
      injection hcs with _ h2
      exact absurd h2 (by decide)
  refine ⟨⟨h.box.only hO (by omega), ?_, h.mbox.only hO (by omega), ?_, ?_, h.kept.onlyS hO (fun k e => by omega)⟩, hO.mono fun k _ e => .inr (by omega)⟩
  · rw [List.length_set]; exact hrow
  · have hf : plF (ms.set k (x, p)) = plF ms := by
      funext s
      unfold plF
      rw [List.map_set]
      rw [ix_set hix s]
    rw [hf, List.length_set]
    exact h.map.only hO (by omega)
  · intro y hy
    rcases List.mem_or_eq_of_mem_set hy with hy | rfl
    · exact hty (h.rows y hy)
    · exact hty hp

/-- A method more whose name is new. -/
theorem ms_new {w X X1 X2 : World} {n₁ : Nat} {ms : List (Tab.M × Value)} {v v' : Value} {x : Tab.M} {p : Value} {tmp : Obj} (h : MsI w n₁ ms v X) (hn : w.heap.size + 3 ≤ n₁) (hX : n₁ ≤ X.heap.size) (hix : Tab.ix Tab.M.name (ms.map Prod.fst) x.name = none)
    (hp : X.ownsRow n₁ 50 2 p x.params.length (x.params.flatMap vCells))
    (hm1 : MapF Tryz.prog 9 (w.heap.size + 1) (ms.length + 1) (fun s => if s = x.name then some (.agg #[.int .i64 ms.length]) else plF ms s) X1) (hg1 : X.grownBy X1 (some (w.heap.size + 1)))
    (hr2 : X2.ownsRow n₁ 53 3 v' (ms.length + 1) (ms.flatMap mCells ++ [.string x.name, p, .string x.res])) (hg2 : (X1.alloc tmp).grownBy X2 v.ownBlock) :
    MsI w n₁ (ms ++ [(x, p)]) v' (X2.setCell ⟨w.heap.size, 0, none⟩ v') ∧ Only (fun j => MsB w j ∨ n₁ ≤ j) X (X2.setCell ⟨w.heap.size, 0, none⟩ v') := by
  have hO1 : Only (· = w.heap.size + 1) X X1 := (Only.refl _ X).grown hg1 fun k e => .inl (by injection e with e; exact e.symm)
  have hlt := h.map.lt
  have hrow1 : X1.ownsRow n₁ 53 3 v ms.length (ms.flatMap mCells) := owns_only h.row hO1 (fun g hg => by omega)
  have hrow1' : (X1.alloc tmp).ownsRow n₁ 53 3 v ms.length (ms.flatMap mCells) := owns_only (S := fun _ => False) hrow1 ((Only.refl _ X1).alloc tmp) (fun _ _ h => h)
  have hO2 : Only (fun k => v.ownBlock = some k) (X1.alloc tmp) X2 := (Only.refl _ _).grown hg2 fun k e => .inl e
  have hO2' : Only (fun k => v.ownBlock = some k) X1 X2 := ((Only.refl _ X1).alloc tmp).trans hO2
  have hvb : ∀ k, v.ownBlock = some k → n₁ ≤ k ∧ ∃ cur, X1.heap[k]? = some (.cells cur 53 (0, 0)) := by
    intro k hk
    rcases hrow1.2 with ⟨rfl, _⟩ | ⟨g, cap, cur, rfl, hb, hgg, _⟩
    · simp [Value.ownBlock] at hk
    · obtain rfl : g = k := by simpa [Value.ownBlock] using hk
      exact ⟨hb, cur, hgg⟩
  have hO3 : Only (· = w.heap.size) X2 (X2.setCell ⟨w.heap.size, 0, none⟩ v') := (Only.refl _ X2).put 0 v'
  have hty : ∀ {q : Value} {m : Nat} {xs : List Value}, X.ownsRow n₁ 50 2 q m xs → (X2.setCell ⟨w.heap.size, 0, none⟩ v').ownsRow n₁ 50 2 q m xs := fun hq =>
    owns_only (owns_typed (owns_only hq hO1 (fun g hg => by omega)) hO2' fun g cs fr e hcs => by
      obtain ⟨_, cur, h2⟩ := hvb g e
      rw [h2] at hcs
      injection hcs with hcs
      injection hcs with _ h3
      exact absurd h3 (by decide)) hO3 (fun g hg => by omega)
  have hall : Only (fun j => MsB w j ∨ n₁ ≤ j) X (X2.setCell ⟨w.heap.size, 0, none⟩ v') :=
    ((hO1.mono fun k _ e => .inl (.inr e)).trans (hO2'.mono fun k _ e => .inr (hvb k e).1)).trans (hO3.mono fun k _ e => .inl (.inl e))
  refine ⟨⟨((h.box.only hO1 (by omega)).only hO2' (fun e => by have := (hvb _ e).1; omega)).put 0 v', ?_, ((h.mbox.only hO1 (by omega)).only hO2' (fun e => by have := (hvb _ e).1; omega)).only hO3 (by omega), ?_, ?_, h.kept.onlyS hall (fun k e => by rcases e with (e | e) | e <;> omega)⟩, hall⟩
  · rw [List.length_append, List.flatMap_append]
    have := owns_only hr2 hO3 (fun g hg => by omega)
    simpa [mCells] using this
  · have hf : plF (ms ++ [(x, p)]) = fun s => if s = x.name then some (.agg #[.int .i64 ms.length]) else plF ms s := by
      funext s
      unfold plF
      rw [List.map_append, List.map_cons, List.map_nil, ix_snoc hix s, List.length_map]
      split <;> rfl
    rw [hf, List.length_append]
    exact (hm1.only hO2' (fun e => by have := (hvb _ e).1; omega)).only hO3 (by omega)
  · intro y hy
    rcases List.mem_append.1 hy with hy | hy
    · exact hty (h.rows y hy)
    · simp at hy
      subst hy
      exact hty hp

end Go.Proofs.YtnjgagbblkjjeaaGreatDoor
