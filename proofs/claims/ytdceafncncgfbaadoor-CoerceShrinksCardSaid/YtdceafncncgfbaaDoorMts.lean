/- The contract of table.copied: a method with a list of parameters of its own. What table.Methods has collected so far: a row of methods of one's own, the map of their places; and what one method more makes of it. The contract of table.Methods. -/
import Derived.Test.YtdceafncncgfbaaDoorFi2
import Derived.Deep.RegionLaw
import Derived.Test.YtdceafncncgfbaaDoorMpl
import Derived.Test.YtdceafncncgfbaaDoorCol
set_option linter.unusedSimpArgs false
set_option linter.unusedVariables false
set_option maxRecDepth 100000
namespace Go.Proofs.YtdceafncncgfbaaDoor
open Go.ChangeShapes Go.WideShapes Go.ChangeAt Go.RowKit Go.Shelf

/-- A copy of a method: its parameters lie in a block of its own. -/
def Copy (w w' : World) (v : Value) (m : Tab.M) : Prop :=
  ∃ p, v = .agg #[.string m.name, p, .string m.res] ∧ w'.ownsRow w.heap.size 58 2 p m.params.length (m.params.flatMap vCells) ∧ Kept w w'

theorem cpy_end {w W1 w1 : World} {m : Tab.M} {p : Value} (hO : Only (fun k => k = w.heap.size ∨ w.heap.size + 1 ≤ k) W1 w1)
    (hV : Blk w1 w.heap.size 61 #[.string ⟨#[]⟩, .slice none 0 0, .string ⟨#[]⟩]) (hW : w1.ownsRow (w.heap.size + 1) 58 2 p (0 + m.params.length) ([] ++ m.params.flatMap vCells)) (hK : Kept w W1) :
    Blk (((w1.setCell ⟨w.heap.size, 0, none⟩ (.string m.name)).setCell ⟨w.heap.size, 1, none⟩ p).setCell ⟨w.heap.size, 2, none⟩ (.string m.res)) w.heap.size 61 #[.string m.name, p, .string m.res] ∧
      Copy w (((w1.setCell ⟨w.heap.size, 0, none⟩ (.string m.name)).setCell ⟨w.heap.size, 1, none⟩ p).setCell ⟨w.heap.size, 2, none⟩ (.string m.res)) (.agg #[.string m.name, p, .string m.res]) m := by
  have hP : Only (· = w.heap.size) w1 (((w1.setCell ⟨w.heap.size, 0, none⟩ (.string m.name)).setCell ⟨w.heap.size, 1, none⟩ p).setCell ⟨w.heap.size, 2, none⟩ (.string m.res)) := (((Only.refl _ w1).put 0 _).put 1 _).put 2 _
  refine ⟨((hV.put 0 _).put 1 _).put 2 _, p, rfl, ?_, ?_⟩
  · rw [Nat.zero_add, List.nil_append] at hW
    exact owns_base (owns_only hW hP (fun g hg => by omega)) (by omega)
  · exact (hK.onlyS hO (fun k h => by omega)).onlyS hP (fun k h => by omega)

set_option maxHeartbeats 4000000 in
theorem copied_c (b o : Nat) (m : Tab.M) (w : World) (h : SigAt w b o m) (hp : m.params.length ≤ 1000) :
    Calls Tryd.prog 71 #[.pointer (some ⟨b, o, none⟩)] w fun e w' => ∃ v, e = .returned v ∧ Copy w w' v m := by
  obtain ⟨i0, hi, hz0, hzz1, hzz2⟩ := info_parts info_var
  have HH := Lib.hid h
  clear h
  go_enter Tryd.func71, Tryd.ntmps71
  go_wp2
  obtain ⟨W1, hW1⟩ : ∃ W1, w.alloc (.cells #[.string ⟨#[]⟩, .slice none 0 0, .string ⟨#[]⟩] 61) = W1 := ⟨_, rfl⟩
  have HB := Lib.hid (show Blk W1.drew w.heap.size 61 #[.string ⟨#[]⟩, .slice none 0 0, .string ⟨#[]⟩] by rw [← hW1]; exact Blk.new _ _ _)
  have HK1 := Lib.hid (show Kept w W1.drew by rw [← hW1]; exact ((Kept.refl w).alloc _).drew)
  have HZ := Lib.hid (show w.heap.size + 1 ≤ W1.drew.heap.size by rw [← hW1]; simp)
  rw [hW1]
  clear hW1
  obtain ⟨hc0, ⟨u, hc1, hu⟩, hc2, _⟩ := HH.out.kept HK1.out
  obtain ⟨ua, un, uc, rfl⟩ : ∃ a n c, u = .slice a n c := by obtain ⟨a, c, e, _⟩ := hu; exact ⟨_, _, _, e⟩
  have HS := Lib.hid (src_vars hu)
  simp only [World.cell?_drew] at hc0 hc1 hc2
  clear hu
  go_region_law (refine step_apk rfl (.const (.slice none 0 0)) (.tmp 10) 59 59 rfl (w.heap.size + 1) 2 58 i0 _ 32 Tryd.underlying59 hi hz0 hzz1 hzz2 rfl rfl (World.ownsRow_nil _ _ _ _) rfl HS.out (by unfold maxLen; omega) (by omega) HZ.out ?_; intro v' w1 hown' hgrow _ _; have HO := Lib.hid (app_only (Only.refl (fun k => k = w.heap.size ∨ w.heap.size + 1 ≤ k) W1.drew) (World.ownsRow_nil _ (w.heap.size + 1) 58 2) hgrow HZ.out); have HV := Lib.hid (HB.out.grownBy hgrow (fun h => by cases h)); have HW := Lib.hid hown'; have hb0 := HV.out.cell 0; have hb1 := HV.out.cell 1; have hb2 := HV.out.cell 2; have hf0 := HV.out.frozen 0; have hf1 := HV.out.frozen 1; have hf2 := HV.out.frozen 2; obtain ⟨hd0, ⟨u', hd1, _⟩, hd2, _⟩ := HH.out.kept (HK1.out.onlyS HO.out (fun k h => by omega)); obtain ⟨av', nv', cv', rfl⟩ := owns_slice hown'; simp at hb0 hb1 hb2; clear hgrow hown')
  all_goals
    go_wp2
    have hF := cpy_end HO.out HV.out HW.out HK1.out
    clear hb0 hb1 hb2 hf0 hf1 hf2 hd0 hd1 hd2 hc0 hc1 hc2 HB HS HH
    have e0 := hF.1.cell 0
    have e1 := hF.1.cell 1
    have e2 := hF.1.cell 2
    simp only [List.getElem?_toArray, List.getElem?_cons_zero, List.getElem?_cons_succ] at e0 e1 e2
    have HF := Lib.hid hF.2
    clear hF
    generalize ((w1.setCell ⟨w.heap.size, 0, none⟩ (Value.string m.name)).setCell ⟨w.heap.size, 1, none⟩ (Value.slice av' nv' cv')).setCell ⟨w.heap.size, 2, none⟩ (Value.string m.res) = Wf at e0 e1 e2 HF ⊢
    exact bodyPost_ret (v := .agg #[.string m.name, .slice av' nv' cv', .string m.res]) (by simp [results, Tryd.results71, go_sem, e0, e1, e2]) rfl ⟨_, rfl, HF.out⟩

end Go.Proofs.YtdceafncncgfbaaDoor

namespace Go.Proofs.YtdceafncncgfbaaDoor
open Go.ChangeShapes Go.WideShapes Go.ChangeAt Go.RowKit Go.Shelf

theorem owns_set {w : World} {base k n g c : Nat} {e : TypeId} {xs : List Value} (h : w.ownsRow base e k (.slice (some ⟨g, 0, none⟩) n c) n xs) {i : Nat} (hi : i < n * k) (u : Value) : (w.setCell ⟨g, i, none⟩ u).ownsRow base e k (.slice (some ⟨g, 0, none⟩) n c) n (xs.set i u) := by
  refine ⟨by rw [List.length_set]; exact h.1, ?_⟩
  rcases h.2 with ⟨h0, _⟩ | ⟨g', cap, cur, hv, h1, h2, h3, h4, h5, h6⟩
  · cases h0
  · cases hv
    refine .inr ⟨g, c, cur.setIfInBounds i u, rfl, h1, ?_, h3, h4, by simpa using h5, ?_⟩
    · simp [World.setCell, Array.getElem?_modify, h2]
    · rw [Array.toList_setIfInBounds, List.take_set, h6]

theorem flat_set {α : Type} (f : α → List Value) {a b c : Value} {y : α} (hf : ∀ x, (f x).length = 3) (hy : f y = [a, b, c]) : ∀ (l : List α) (k : Nat), k < l.length → (((l.flatMap f).set (k * 3) a).set (k * 3 + 1) b).set (k * 3 + 2) c = (l.set k y).flatMap f
  | [], k, h => by simp at h
  | x :: r, 0, _ => by
    have h3 := hf x
    match hx : f x, h3 with
    | [p, q, s], _ => simp [hx, hy]
  | x :: r, k + 1, h => by
    have h3 := hf x
    have ih := flat_set f hf hy r k (by simpa using h)
    match hx : f x, h3 with
    | [p, q, s], _ =>
      rw [List.set_cons_succ, List.flatMap_cons, List.flatMap_cons, hx, ← ih]
      rw [show (k + 1) * 3 = k * 3 + 1 + 1 + 1 by omega]
      rfl

def mCells (x : Tab.M × Value) : List Value := [.string x.1.name, x.2, .string x.1.res]
theorem mCells_len (x : Tab.M × Value) : (mCells x).length = 3 := rfl

theorem info_sig : (Tryd.prog.info? 61).map (fun i => (i.zero, i.size, i.bytes)) = some (some (.agg #[.string ⟨#[]⟩, .slice none 0 0, .string ⟨#[]⟩]), 3, 56) := by kernel_rfl

/-- Where a method stands. -/
def plF (ms : List (Tab.M × Value)) (s : ByteArray) : Option Value := (Tab.ix Tab.M.name (ms.map Prod.fst) s).map fun k => .agg #[.int .i64 k]

/-- The methods so far. -/
structure MsI (w : World) (n₁ : Nat) (ms : List (Tab.M × Value)) (v : Value) (W : World) : Prop where
  box : Blk W w.heap.size 62 #[v]
  row : W.ownsRow n₁ 61 3 v ms.length (ms.flatMap mCells)
  mbox : Blk W (w.heap.size + 1 + 1) 125 #[.map (some (w.heap.size + 1))]
  map : MapF Tryd.prog 9 (w.heap.size + 1) ms.length (plF ms) W
  rows : ∀ x ∈ ms, W.ownsRow n₁ 58 2 x.2 x.1.params.length (x.1.params.flatMap vCells)
  kept : Kept w W

/-- What the loop may turn ahead of what it makes itself: the list's box, and the map. -/
abbrev MsB (w : World) (k : Nat) : Prop := k = w.heap.size ∨ k = w.heap.size + 1

theorem owns_typed {S : Nat → Prop} {X Y : World} {base k n : Nat} {e : TypeId} {v : Value} {xs : List Value} (h : X.ownsRow base e k v n xs) (ho : Only S X Y) (hs : ∀ g cs fr, S g → X.heap[g]? ≠ some (.cells cs e fr)) : Y.ownsRow base e k v n xs := by
  refine ⟨h.1, ?_⟩
  rcases h.2 with hn | ⟨g, cap, cur, rfl, hb, hgg, rest⟩
  · exact .inl hn
  · exact .inr ⟨g, cap, cur, rfl, hb, ho.same hgg (fun h => hs g _ _ h hgg), rest⟩

theorem MsI.keep {w A B : World} {n₁ : Nat} {ms : List (Tab.M × Value)} {v : Value} {S : Nat → Prop} (h : MsI w n₁ ms v A) (ho : Only S A B) (hs : ∀ k, S k → w.heap.size + 3 ≤ k ∧ ¬ n₁ ≤ k) : MsI w n₁ ms v B :=
  ⟨h.box.only ho (fun e => by have := hs _ e; omega), owns_only h.row ho (fun g hg e => (hs _ e).2 hg), h.mbox.only ho (fun e => by have := hs _ e; omega), h.map.only ho (fun e => by have := hs _ e; omega),
    fun x hx => owns_only (h.rows x hx) ho (fun g hg e => (hs _ e).2 hg), h.kept.onlyS ho (fun k e => by have := hs k e; omega)⟩
theorem MsI.of_kept {w A B : World} {n₁ : Nat} {ms : List (Tab.M × Value)} {v : Value} (h : MsI w n₁ ms v A) (k : Kept A B) : MsI w n₁ ms v B := h.keep (S := fun _ => False) (Only.of_kept k) (fun _ h => h.elim)

theorem ix_fst_lt {ms : List (Tab.M × Value)} {s : ByteArray} {k : Nat} (h : Tab.ix Tab.M.name (ms.map Prod.fst) s = some k) : k < ms.length := by
  obtain ⟨h1, _⟩ := Tab.ix_lt h
  simpa using h1

/-- Names: the first place of a name, when the thing there is exchanged for another one of that name. -/
theorem ix_set {l : List Tab.M} {m : Tab.M} {k : Nat} (h : Tab.ix Tab.M.name l m.name = some k) (s : ByteArray) : Tab.ix Tab.M.name (l.set k m) s = Tab.ix Tab.M.name l s := by
  have e : (l.set k m).map Tab.M.name = l.map Tab.M.name := by
    rw [List.map_set]
    obtain ⟨h1, h2⟩ := Tab.ix_lt h
    refine List.ext_getElem? fun j => ?_
    rw [List.getElem?_set]
    split
    · rename_i hj
      subst hj
      simp [h1, h2]
    · rfl
  have g : ∀ l : List Tab.M, Tab.ix Tab.M.name l s = (l.map Tab.M.name).findIdx? fun x => decide (x = s) := by
    intro l
    unfold Tab.ix
    rw [List.findIdx?_map]; rfl
  rw [g, g, e]
theorem ix_snoc {l : List Tab.M} {m : Tab.M} (h : Tab.ix Tab.M.name l m.name = none) (s : ByteArray) : Tab.ix Tab.M.name (l ++ [m]) s = if s = m.name then some l.length else Tab.ix Tab.M.name l s := by
  unfold Tab.ix
  rw [List.findIdx?_append]
  by_cases hs : s = m.name
  · subst hs
    rw [if_pos rfl, show l.findIdx? (fun x => decide (x.name = m.name)) = none from h]
    simp
  · rw [if_neg hs]
    have : ¬ m.name = s := fun e => hs e.symm
    simp [this]

theorem MsI.blk_row {w X : World} {n₁ : Nat} {ms : List (Tab.M × Value)} {g n c : Nat} (h : MsI w n₁ ms (.slice (some ⟨g, 0, none⟩) n c) X) : n₁ ≤ g ∧ n = ms.length ∧ ∃ cur, X.heap[g]? = some (.cells cur 61 (0, 0)) := by
  rcases h.row.2 with ⟨h0, _⟩ | ⟨g', cap, cur, hv, h1, h2, _⟩
  · cases h0
  · cases hv
    exact ⟨h1, rfl, cur, h2⟩

/-- A method more whose name has occurred: it takes that one's place. -/
theorem ms_old {w X : World} {n₁ : Nat} {ms : List (Tab.M × Value)} {g n c k : Nat} {x : Tab.M} {p : Value} (h : MsI w n₁ ms (.slice (some ⟨g, 0, none⟩) n c) X) (hn : w.heap.size + 3 ≤ n₁) (hix : Tab.ix Tab.M.name (ms.map Prod.fst) x.name = some k)
    (hp : X.ownsRow n₁ 58 2 p x.params.length (x.params.flatMap vCells)) :
    MsI w n₁ (ms.set k (x, p)) (.slice (some ⟨g, 0, none⟩) n c) (((X.setCell ⟨g, k * 3, none⟩ (.string x.name)).setCell ⟨g, k * 3 + 1, none⟩ p).setCell ⟨g, k * 3 + 2, none⟩ (.string x.res)) ∧
      Only (fun j => MsB w j ∨ n₁ ≤ j) X (((X.setCell ⟨g, k * 3, none⟩ (.string x.name)).setCell ⟨g, k * 3 + 1, none⟩ p).setCell ⟨g, k * 3 + 2, none⟩ (.string x.res)) := by
  obtain ⟨hg, rfl, cur, hcur⟩ := h.blk_row
  have hk := ix_fst_lt hix
  have hO : Only (· = g) X (((X.setCell ⟨g, k * 3, none⟩ (.string x.name)).setCell ⟨g, k * 3 + 1, none⟩ p).setCell ⟨g, k * 3 + 2, none⟩ (.string x.res)) := (((Only.refl _ X).put _ _).put _ _).put _ _
  have hrow := owns_set (owns_set (owns_set h.row (i := k * 3) (by omega) (.string x.name)) (i := k * 3 + 1) (by omega) p) (i := k * 3 + 2) (by omega) (.string x.res)
  rw [flat_set mCells (y := (x, p)) mCells_len rfl ms k hk] at hrow
  have hty : ∀ {q : Value} {m : Nat} {xs : List Value}, X.ownsRow n₁ 58 2 q m xs → (((X.setCell ⟨g, k * 3, none⟩ (.string x.name)).setCell ⟨g, k * 3 + 1, none⟩ p).setCell ⟨g, k * 3 + 2, none⟩ (.string x.res)).ownsRow n₁ 58 2 q m xs := fun hq =>
    owns_typed hq hO fun g' cs fr e hcs => by
      subst e
      rw [hcur] at hcs
      injection hcs with hcs
      injection hcs with _ h2
      exact absurd h2 (by decide)
  refine ⟨⟨h.box.only hO (by omega), ?_, h.mbox.only hO (by omega), ?_, ?_, h.kept.onlyS hO (fun k e => by omega)⟩, hO.mono fun k _ e => .inr (by omega)⟩
  · rw [List.length_set]; exact hrow
  · have hf : plF (ms.set k (x, p)) = plF ms := by
      funext s
      unfold plF
      rw [List.map_set]
      rw [ix_set hix s]
    rw [hf, List.length_set]
    exact h.map.only hO (by omega)
  · intro y hy
    rcases List.mem_or_eq_of_mem_set hy with hy | rfl
    · exact hty (h.rows y hy)
    · exact hty hp

/-- A method more whose name is new. -/
theorem ms_new {w X X1 X2 : World} {n₁ : Nat} {ms : List (Tab.M × Value)} {v v' : Value} {x : Tab.M} {p : Value} {tmp : Obj} (h : MsI w n₁ ms v X) (hn : w.heap.size + 3 ≤ n₁) (hX : n₁ ≤ X.heap.size) (hix : Tab.ix Tab.M.name (ms.map Prod.fst) x.name = none)
    (hp : X.ownsRow n₁ 58 2 p x.params.length (x.params.flatMap vCells))
    (hm1 : MapF Tryd.prog 9 (w.heap.size + 1) (ms.length + 1) (fun s => if s = x.name then some (.agg #[.int .i64 ms.length]) else plF ms s) X1) (hg1 : X.grownBy X1 (some (w.heap.size + 1)))
    (hr2 : X2.ownsRow n₁ 61 3 v' (ms.length + 1) (ms.flatMap mCells ++ [.string x.name, p, .string x.res])) (hg2 : (X1.alloc tmp).grownBy X2 v.ownBlock) :
    MsI w n₁ (ms ++ [(x, p)]) v' (X2.setCell ⟨w.heap.size, 0, none⟩ v') ∧ Only (fun j => MsB w j ∨ n₁ ≤ j) X (X2.setCell ⟨w.heap.size, 0, none⟩ v') := by
  have hO1 : Only (· = w.heap.size + 1) X X1 := (Only.refl _ X).grown hg1 fun k e => .inl (by injection e with e; exact e.symm)
  have hlt := h.map.lt
  have hrow1 : X1.ownsRow n₁ 61 3 v ms.length (ms.flatMap mCells) := owns_only h.row hO1 (fun g hg => by omega)
  have hrow1' : (X1.alloc tmp).ownsRow n₁ 61 3 v ms.length (ms.flatMap mCells) := owns_only (S := fun _ => False) hrow1 ((Only.refl _ X1).alloc tmp) (fun _ _ h => h)
  have hO2 : Only (fun k => v.ownBlock = some k) (X1.alloc tmp) X2 := (Only.refl _ _).grown hg2 fun k e => .inl e
  have hO2' : Only (fun k => v.ownBlock = some k) X1 X2 := ((Only.refl _ X1).alloc tmp).trans hO2
  have hvb : ∀ k, v.ownBlock = some k → n₁ ≤ k ∧ ∃ cur, X1.heap[k]? = some (.cells cur 61 (0, 0)) := by
    intro k hk
    rcases hrow1.2 with ⟨rfl, _⟩ | ⟨g, cap, cur, rfl, hb, hgg, _⟩
    · simp [Value.ownBlock] at hk
    · obtain rfl : g = k := by simpa [Value.ownBlock] using hk
      exact ⟨hb, cur, hgg⟩
  have hO3 : Only (· = w.heap.size) X2 (X2.setCell ⟨w.heap.size, 0, none⟩ v') := (Only.refl _ X2).put 0 v'
  have hty : ∀ {q : Value} {m : Nat} {xs : List Value}, X.ownsRow n₁ 58 2 q m xs → (X2.setCell ⟨w.heap.size, 0, none⟩ v').ownsRow n₁ 58 2 q m xs := fun hq =>
    owns_only (owns_typed (owns_only hq hO1 (fun g hg => by omega)) hO2' fun g cs fr e hcs => by
      obtain ⟨_, cur, h2⟩ := hvb g e
      rw [h2] at hcs
      injection hcs with hcs
      injection hcs with _ h3
      exact absurd h3 (by decide)) hO3 (fun g hg => by omega)
  have hall : Only (fun j => MsB w j ∨ n₁ ≤ j) X (X2.setCell ⟨w.heap.size, 0, none⟩ v') :=
    ((hO1.mono fun k _ e => .inl (.inr e)).trans (hO2'.mono fun k _ e => .inr (hvb k e).1)).trans (hO3.mono fun k _ e => .inl (.inl e))
  refine ⟨⟨((h.box.only hO1 (by omega)).only hO2' (fun e => by have := (hvb _ e).1; omega)).put 0 v', ?_, ((h.mbox.only hO1 (by omega)).only hO2' (fun e => by have := (hvb _ e).1; omega)).only hO3 (by omega), ?_, ?_, h.kept.onlyS hall (fun k e => by rcases e with (e | e) | e <;> omega)⟩, hall⟩
  · rw [List.length_append, List.flatMap_append]
    have := owns_only hr2 hO3 (fun g hg => by omega)
    simpa [mCells] using this
  · have hf : plF (ms ++ [(x, p)]) = fun s => if s = x.name then some (.agg #[.int .i64 ms.length]) else plF ms s := by
      funext s
      unfold plF
      rw [List.map_append, List.map_cons, List.map_nil, ix_snoc hix s, List.length_map]
      split <;> rfl
    rw [hf, List.length_append]
    exact (hm1.only hO2' (fun e => by have := (hvb _ e).1; omega)).only hO3 (by omega)
  · intro y hy
    rcases List.mem_append.1 hy with hy | hy
    · exact hty (h.rows y hy)
    · simp at hy
      subst hy
      exact hty hp

end Go.Proofs.YtdceafncncgfbaaDoor

namespace Go.Proofs.YtdceafncncgfbaaDoor
open Go.ChangeShapes Go.WideShapes Go.ChangeAt Go.RowKit Go.Shelf
attribute [local go_sem] Oper.semAt_some

/-- The methods of the classes at some places. -/
def mthsOf (t : List Tab.C) (pre : List (Nat × Nat)) : List Tab.M := pre.flatMap fun y => (Tab.nth t y.1).methods
theorem mthsOf_snoc (t : List Tab.C) (pre : List (Nat × Nat)) (y : Nat × Nat) : mthsOf t (pre ++ [y]) = mthsOf t pre ++ (Tab.nth t y.1).methods := by unfold mthsOf; simp
theorem mthsOf_all (t : List Tab.C) (s : ByteArray) : (mthsOf t (bk (Tab.line t s) 0)).foldl Tab.addM [] = Tab.methods t s := by
  unfold mthsOf Tab.methods
  rw [← bk_fst, List.flatMap_map]
theorem mthsOf_le {t : List Tab.C} (hS : Small t) {s : ByteArray} {pre : List (Nat × Nat)} (h : pre <+: bk (Tab.line t s) 0) : (mthsOf t pre).length ≤ 1001000 := by
  have h1 := flat_le (fun y : Nat × Nat => (Tab.nth t y.1).methods) 1000 pre fun y hy => hS.methods _ (nth_mem (pre_line h y hy))
  have h2 := h.length_le
  have h3 := Tab.line_len t s
  have h4 := hS.len
  rw [bk_len] at h2
  unfold mthsOf
  have : pre.length ≤ 1001 := by omega
  have := Nat.mul_le_mul_right 1000 this
  omega

/-- Within the loop: the methods so far. -/
def MtsI (t : List Tab.C) (w : World) (n₁ : Nat) (w5 : World) (pre : List (Nat × Nat)) (W : World) : Prop :=
  (∃ (ms : List (Tab.M × Value)) (v : Value), MsI w n₁ ms v W ∧ ms.map Prod.fst = (mthsOf t pre).foldl Tab.addM [] ∧ ms.length ≤ (mthsOf t pre).length) ∧ Only (MsB w) w5 W

theorem owns_slice_n {w : World} {base k n : Nat} {e : TypeId} {v : Value} {xs : List Value} (h : w.ownsRow base e k v n xs) : ∃ a c, v = .slice a n c :=
  h.2.elim (fun h => ⟨none, 0, by rw [h.1, h.2]⟩) (fun ⟨g, cap, _, h, _⟩ => ⟨_, _, h⟩)
theorem row_cells {w : World} {base k n c : Nat} {a : Option Addr} {e : TypeId} {xs : List Value} (h : w.ownsRow base e k (.slice a n c) n xs) (hn : 0 < n) :
    ∃ g, a = some ⟨g, 0, none⟩ ∧ (∀ i, i < n * k → ∃ z, w.cell? ⟨g, i, none⟩ = some z) ∧ ∀ i, w.frozen? ⟨g, i, none⟩ = false := by
  rcases h.2 with ⟨h0, h1⟩ | ⟨g, cap, cur, hv, h1, h2, h3, h4, h5, h6⟩
  · omega
  · cases hv
    have hb : Blk w g e cur := h2
    refine ⟨g, rfl, fun i hi => ?_, fun i => hb.frozen i⟩
    rw [hb.cell]
    have : n * k ≤ c * k := Nat.mul_le_mul_right k h3
    exact ⟨_, Array.getElem?_eq_getElem (by omega)⟩

theorem cells_new3 (w : World) (t : TypeId) (a b c : Value) : ∀ (j : Nat) (u : Value), [a, b, c][j]? = some u → (w.alloc (.cells #[a, b, c] t)).cell? ((⟨w.heap.size, 0, none⟩ : Addr).add j) = some u := by
  intro j u hu
  rw [addr_plain, (Blk.new w t #[a, b, c]).cell, Nat.zero_add]
  simpa using hu

theorem zero_place (W : World) : (zeroValue 129).run Tryd.prog W = .ok (.agg #[.int .i64 0]) W := by kernel_rfl

set_option maxHeartbeats 4000000 in
theorem methods_c (a : Option Addr) (c : Nat) (t : List Tab.C) (s : ByteArray) (w : World) (hT : TabAt w (.slice a t.length c) t) (hS : Small t) :
    Calls Tryd.prog 52 #[.slice a t.length c, .string s] w fun e w' => ∃ (ms : List (Tab.M × Value)) (v : Value), e = .returned v ∧ ms.map Prod.fst = Tab.methods t s ∧ w'.ownsRow w.heap.size 61 3 v ms.length (ms.flatMap mCells) ∧
      (∀ x ∈ ms, w'.ownsRow w.heap.size 58 2 x.2 x.1.params.length (x.1.params.flatMap vCells)) ∧ ms.length ≤ 1001000 ∧ Kept w w' := by
  obtain ⟨i0, hi, hz0, hzz1, hzz2⟩ := info_parts info_sig
  have ht := hS.len
  have hmm := @run_makeMap Tryd.prog
  refine (callsIn_wide (n := 3)).1 (callsIn_of_wp_marks Tryd.func52 rfl trivial (wpIn_wide.2 ?_) rfl)
  simp only [Tryd.ntmps52, List.size_toArray, List.length_cons, List.length_nil, Nat.reduceAdd, Nat.reduceSub, Array.replicate_succ, Array.replicate_zero, List.push_toArray, List.append_toArray, List.nil_append, List.cons_append]
  have HT := Lib.hid hT
  clear hT
  go_wp2_with fail
  obtain ⟨W1, hW1⟩ : ∃ W1, ((w.alloc (.cells #[.slice none 0 0] 62)).alloc (.map #[] 0)).alloc (.cells #[.map (some (w.heap.size + 1))] 125) = W1 := ⟨_, rfl⟩
  have hI1 : ∀ n₁, MsI w n₁ [] (.slice none 0 0) W1 := by
    intro n₁
    rw [← hW1]
    have h2 := MapF.made (w.alloc (.cells #[.slice none 0 0] 62)) Tryd.prog 9
    have h3 := Blk.new ((w.alloc (.cells #[.slice none 0 0] 62)).alloc (.map #[] 0)) 125 #[.map (some (w.heap.size + 1))]
    simp only [World.size_alloc] at h2 h3
    exact ⟨((Blk.new w _ _).alloc _).alloc _, World.ownsRow_nil _ _ _ _, h3, h2.only ((Only.refl (fun _ => False) _).alloc _) (fun h => h), fun x hx => (by cases hx), (((Kept.refl w).alloc _).alloc _).alloc _⟩
  have hs1 : w.heap.size + 3 ≤ W1.heap.size := by rw [← hW1]; simp
  have HI1 := Lib.hid hI1
  have HK1 := Lib.hid (hI1 0).kept
  rw [hW1]
  clear hW1 hI1
  refine (line_lineC a c t s _).mono ?_
  rintro e w3 ⟨rfl, hw3⟩
  have hk3 : Kept W1 w3 := by rw [hw3]; exact ((Kept.refl W1).alloc _).alloc _
  have hs3 : W1.heap.size + 1 + 1 ≤ w3.heap.size := by rw [hw3]; simp
  have hb1 : Blk w3 W1.heap.size 22 #[.slice a t.length c] := by rw [hw3]; exact (Blk.new _ _ _).alloc _
  have hb2 : Blk w3 (W1.heap.size + 1) 9 #[.string s] := by
    rw [hw3]
    have := Blk.new (W1.alloc (.cells #[.slice a t.length c] 22)) 9 #[.string s]
    simpa using this
  have HC := Lib.hid (collect_c a c t s W1 w3 W1.heap.size (W1.heap.size + 1) (tab_kept HT.out HK1.out) ht hk3 hb1 hb2 (by omega) (Nat.le_refl _) (by omega))
  clear hk3 hb1 hb2 hw3
  go_wp2_with fail
  refine HC.out.mono ?_
  rintro e w4 ⟨v, rfl, hrow, hk4⟩
  clear HC
  have hcs := owns_slice hrow
  have HR4 := Lib.hid hrow
  have HK4 := Lib.hid hk4
  clear hrow hk4
  obtain ⟨va, vn, vc, hv⟩ := hcs
  subst hv
  go_wp2_with fail
  refine (back_lineC _ w4 ⟨_, _, _, rfl⟩).mono ?_
  rintro e W5 ⟨rfl, hW5⟩
  have hs5 : w4.heap.size + 1 ≤ W5.heap.size := by rw [hW5]; simp
  have h14 := HK4.out.size
  have hk5 : Kept W1 W5 := by rw [hW5]; exact HK4.out.alloc _
  have HB5 := Lib.hid (show Blk W5 w4.heap.size 119 #[.slice va vn vc] by rw [hW5]; exact Blk.new _ _ _)
  have HR5 := Lib.hid (show W5.ownsRow (w3.heap.size + 4) 120 1 (.slice va vn vc) (Tab.line t s).length ((Tab.line t s).map (elC a)) by rw [hW5]; exact HR4.out.alloc _)
  have HI5 := Lib.hid (fun n₁ => (HI1.out n₁).of_kept hk5)
  have HK5 := Lib.hid (HK1.out.trans hk5)
  clear hW5 hk5
  go_wp2_with fail
  refine wpIn_wide.1 (wpIn_range_back (w0 := w) (Bb := w4.heap.size) (base := w3.heap.size + 4) a c t s (MsB w) rfl HT.out ht HB5.out HR5.out (fun k e => by omega) rfl
    (MtsI t w (W5.heap.size + 2) W5) (fun _ _ _ => False) ?hI (fun _ _ _ _ h _ => h) ⟨⟨[], _, HI5.out _, rfl, Nat.zero_le _⟩, Only.refl _ _⟩
    (fun y => { tmps := #[.slice a t.length c, .string s, undef, undef, .slice none 0 0, .pointer (some ⟨w.heap.size, 0, none⟩), .pointer (some ⟨w.heap.size + 1 + 1, 0, none⟩), undef, elC a y.1, undef, undef, undef, undef, .map (some (w.heap.size + 1)), .slice a t.length c, .string s, .func (.func 83) #[] #[.pointer (some ⟨W1.heap.size, 0, none⟩), .pointer (some ⟨W1.heap.size + 1, 0, none⟩)], .slice va vn vc, .func (.func 81) #[] #[.pointer (some ⟨w4.heap.size, 0, none⟩)], .int .i64 y.2, elC a y.1, undef, undef, undef, undef, undef, undef, undef, undef, undef, undef, undef, undef, undef, undef, undef, undef, undef, undef, undef, undef, undef, undef, undef, undef, undef, undef, undef, undef, undef, undef, undef, undef, undef, undef, undef, undef, undef, undef, undef, undef], defers := [] }) ?assign ?body ?done ?stop)
  case hI =>
    rintro pre A B ⟨⟨ms, v, h1, h2, h3⟩, h4⟩ ho
    exact ⟨⟨ms, v, h1.keep ho (fun k h => by omega), h2, h3⟩, h4.trans' ho fun k hk h => by omega⟩
  case assign =>
    intro l i W K hK
    gi_wp2
    exact hK
  case body =>
    rintro l pre i k b o W hl _ ⟨⟨ms0, v0, hM0, hf0, hl0⟩, hO0⟩ hsize hpre hi' rfl hcl
    obtain ⟨_, _, _, ⟨u, hcw, hu⟩, _⟩ := hcl
    have hc0 := hM0.kept.cell hcw
    have HCW := Lib.hid hcw
    have hL := mthsOf_le hS hpre
    rw [mthsOf_snoc, List.length_append] at hL
    have HM0 := Lib.hid hM0
    have HF0 := Lib.hid hf0
    have HO0 := Lib.hid hO0
    have HPM := Lib.hid (hS.params _ (nth_mem hi'))
    have hN₁ : w.heap.size + 6 ≤ W5.heap.size + 2 := by omega
    obtain ⟨ua, uc, hue, _, _, hat⟩ := hu
    subst hue
    have HAT := Lib.hid hat
    simp only [elC, evC, Option.map_some]
    clear hcw hpre hat hM0 hf0 hO0
    gi_wp2
    have hSZ := hsize
    clear hsize
    gi_loopw [26] (fun q wr => ∃ (j : Nat) (ms : List (Tab.M × Value)) (v : Value), j ≤ (Tab.nth t i).methods.length ∧ q = .int .i64 j ∧ MsI w (W5.heap.size + 2) ms v wr ∧ ms.map Prod.fst = ((Tab.nth t i).methods.take j).foldl Tab.addM ((mthsOf t pre).foldl Tab.addM []) ∧
        ms.length ≤ (mthsOf t pre).length + j ∧ Only (fun k => MsB w k ∨ W5.heap.size + 2 ≤ k) W wr) (fun q wr => (Tab.nth t i).methods.length - (intOf q).toNat)
    case atStart => exact ⟨0, ms0, v0, Nat.zero_le _, rfl, HM0.out, by rw [HF0.out]; rfl, by omega, Only.refl _ _⟩
    case round =>
      obtain ⟨j, ms, v, hj, rfl, hM, hf, hlen, hO⟩ := hrel
      by_cases hlt : j < (Tab.nth t i).methods.length
      · have hx : (Tab.nth t i).methods[j]? = some (Tab.nth t i).methods[j] := List.getElem?_eq_getElem hlt
        obtain ⟨ub, uo, e2, hva⟩ := HAT.out _ _ hx
        have hpl := HPM.out _ (List.mem_of_getElem? hx)
        generalize (Tab.nth t i).methods[j] = x at hx hva hpl
        subst e2
        have hltI : (j : Int) < ((Tab.nth t i).methods.length : Int) := by omega
        have hc1 := hM.kept.cell HCW.out
        have HC := Lib.hid (copied_c ub (uo + j * 3) x wr (hva.kept hM.kept) hpl)
        have HX := Lib.hid (show (Tab.nth t i).methods.take (j + 1) = (Tab.nth t i).methods.take j ++ [x] by rw [List.take_add_one, hx]; rfl)
        have HM := Lib.hid hM
        have HF := Lib.hid hf
        have HO := Lib.hid hO
        have HNM := Lib.hid hva.2.2.2.1
        have HLN := Lib.hid hlen
        clear hx hva hpl hM hf hO hc0
        gi_wp2
        refine ⟨trivial, (CallsIn.inRound (W5.heap.size + 1) (callsIn_wide.2 HC.out)).mono ?_⟩
        rintro e w2 ⟨v2, rfl, p, rfl, hrow2, hk2⟩
        have HR2 := Lib.hid hrow2
        have HK2 := Lib.hid hk2
        have HS2 := Lib.hid (show W5.heap.size + 2 ≤ wr.heap.size by have := HO.out.size; omega)
        obtain ⟨pa, pn, pc, rfl⟩ := owns_slice hrow2
        clear hrow2 hk2 HC
        have hkey : keyOf Tryd.prog 9 (.string x.name) = some (.string x.name.data.toList) := WideMaps.keyOf_string_mk Tryd.underlying9 HNM.out
        have hMX := HM.out.of_kept (HK2.out.alloc (.cells #[.string x.name, .slice pa pn pc, .string x.res] 61))
        have hlk := hMX.map.look (t := 125) (e := 129) (Maps.string_keyed Tryd.underlying9) Tryd.underlying125 (zero_place _) x.name hkey
        have hmx := hMX.mbox.cell 0
        simp at hmx
        obtain ⟨g, gc, rfl⟩ := owns_slice_n hMX.row
        have HPX := Lib.hid (owns_base (base' := W5.heap.size + 2) HR2.out HS2.out)
        cases hix : Tab.ix Tab.M.name (ms.map Prod.fst) x.name with
        | some k' =>
          have HI := Lib.hid hix
          rw [show plF ms x.name = some (.agg #[.int .i64 k']) by unfold plF; rw [hix]; rfl] at hlk
          simp only [Option.getD_some, Option.isSome_some] at hlk
          have hM2 := hMX.of_kept ((Kept.refl _).alloc (.cells #[.int .i64 k'] 129))
          have hk' := ix_fst_lt hix
          have hkI : (k' : Int) < (ms.length : Int) := by omega
          obtain ⟨gb, rfl, hcells, hfroz⟩ := row_cells hM2.row (by omega)
          have r0 := hcells (k' * 3) (by omega)
          have r1 := hcells (k' * 3 + 1) (by omega)
          have r2 := hcells (k' * 3 + 2) (by omega)
          have f0 := hfroz (k' * 3)
          have f1 := hfroz (k' * 3 + 1)
          have f2 := hfroz (k' * 3 + 2)
          obtain ⟨z0, r0⟩ := r0
          obtain ⟨z1, r1⟩ := r1
          obtain ⟨z2, r2⟩ := r2
          have hbx := hM2.box.cell 0
          have hpb := (Blk.new (w2.alloc (.cells #[.string x.name, .slice pa pn pc, .string x.res] 61)) 129 #[.int .i64 k']).cell 0
          have hbA := (Blk.new w2 61 #[.string x.name, .slice pa pn pc, .string x.res]).alloc (.cells #[.int .i64 k'] 129)
          have q0 := hbA.cell 0
          have q1 := hbA.cell 1
          have q2 := hbA.cell 2
          simp at hbx hpb q0 q1 q2
          have HE := Lib.hid (ms_old hM2 (by omega) hix (x := x) (owns_only (S := fun _ => False) HPX.out (((Only.refl _ w2).alloc (.cells #[.string x.name, .slice pa pn pc, .string x.res] 61)).alloc (.cells #[.int .i64 k'] 129)) (fun _ _ h => h)))
          clear hMX hix hM2 hbA hcells hfroz hk' hlen hkey
          gi_wp2
          go_roundw
          case rel =>
            have hE := HE.out
            refine ⟨j + 1, _, _, by omega, by go_num, hE.1, ?_, by rw [List.length_set]; have := HLN.out; omega, ?_⟩
            · rw [HX.out, List.foldl_append, ← HF.out, List.map_set]
              unfold Tab.addM
              simp only [List.foldl_cons, List.foldl_nil, HI.out]
            · exact (HO.out.trans (Only.of_kept ((HK2.out.alloc _).alloc _))).trans hE.2
          case measure => simp [intOf]; omega
        | none =>
          have HI := Lib.hid hix
          rw [show plF ms x.name = none by unfold plF; rw [hix]; rfl] at hlk
          simp only [Option.getD_none, Option.isSome_none] at hlk
          have hM2 := hMX.of_kept ((Kept.refl _).alloc (.cells #[.int .i64 0] 129))
          obtain ⟨X3, hup, hm3, hg3⟩ := hM2.map.store (t := 125) (e := 129) (Maps.string_keyed Tryd.underlying9) Tryd.underlying125 (by unfold maxLen; omega) x.name (.agg #[.int .i64 ms.length]) hkey
          have hO3 : Only (· = w.heap.size + 1) _ X3 := (Only.refl _ _).grown hg3 fun k e => .inl (by injection e with e; exact e.symm)
          have hbx := hM2.box.cell 0
          have hmx2 := hM2.mbox.cell 0
          have hbA := (Blk.new w2 61 #[.string x.name, .slice pa pn pc, .string x.res]).alloc (.cells #[.int .i64 0] 129)
          have hw2 : w.heap.size + 1 ≠ w2.heap.size := by have := HM.out.map.lt; have := HK2.out.size; omega
          have p0 := hbA.cell 0
          have hbx3 := (hM2.box.only hO3 (by omega)).cell 0
          have hB3 := hM2.box.only hO3 (by omega)
          have hf3 := hB3.frozen 0
          have hbA3 := hbA.only hO3 (fun e => hw2 e.symm)
          have q0 := hbA3.cell 0
          have q1 := hbA3.cell 1
          have q2 := hbA3.cell 2
          simp at hbx hmx2 p0 hbx3 q0 q1 q2
          have hrow3 := owns_only hM2.row hO3 (fun g hg => by omega)
          have hz3 : W5.heap.size + 2 ≤ X3.heap.size := by have := hO3.size; have := HK2.out.size; have := HO.out.size; simp at *; omega
          have HE := Lib.hid (fun (v' : Value) (X4 : World) (tmp : Obj) => ms_new (X2 := X4) (v' := v') (tmp := tmp) hM2 (by omega) (by have := HK2.out.size; have := HO.out.size; simp; omega) hix (x := x) (owns_only (S := fun _ => False) HPX.out (((Only.refl _ w2).alloc (.cells #[.string x.name, .slice pa pn pc, .string x.res] 61)).alloc (.cells #[.int .i64 0] 129)) (fun _ _ h => h)) hm3 hg3)
          have HB3 := Lib.hid hB3
          have HR3 := Lib.hid hrow3
          have HLB := Lib.hid (show ms.length + 1 ≤ 1003000 by omega)
          clear hMX hix hM2 hbA hO3 hm3 hg3 hbA3 hB3 hrow3 hkey hlen hw2
          have hlb := HLB.out
          gi_wp2_with (gi_at_builtin; refine wpListIn_append_own _ rfl _ _ 62 rfl (W5.heap.size + 2) 61 i0 (.agg #[.string ⟨#[]⟩, .slice none 0 0, .string ⟨#[]⟩]) 3 56 Tryd.underlying62 hi hz0 hzz1 hzz2 rfl (by decide) _ _ _ rfl (HR3.out.alloc _) ⟨X3.heap.size, 0, none⟩ 1 1 [.string x.name, .slice pa pn pc, .string x.res] rfl rfl (cells_new3 _ _ _ _ _) (by simp [Value.oneCell']) (by unfold maxLen; omega) (by omega) (by simp; omega) ?_; intro v' w1 hown' hgrow _; have HO1 := Lib.hid hown'; have HG1 := Lib.hid hgrow; obtain ⟨g', cap', rfl⟩ := ownsRow_succ hown'; have hv1 := (HB3.out.alloc (.cells #[.string x.name, .slice pa pn pc, .string x.res] 61)).grownBy hgrow (ne_row_blk (HB3.out.alloc (.cells #[.string x.name, .slice pa pn pc, .string x.res] 61)) (by decide) (HR3.out.alloc _)); have hc1 := hv1.cell 0; have hf1 := hv1.frozen 0; simp at hc1; clear hown' hgrow hv1)
          go_roundw
          case rel =>
            have hE := HE.out _ _ _ HO1.out HG1.out
            refine ⟨j + 1, _, _, by omega, by go_num, hE.1, ?_, by rw [List.length_append]; have := HLN.out; simp; omega, ?_⟩
            · rw [HX.out, List.foldl_append, ← HF.out, List.map_append]
              unfold Tab.addM
              simp only [List.foldl_cons, List.foldl_nil, HI.out, List.map_cons, List.map_nil]
            · exact (HO.out.trans (Only.of_kept ((HK2.out.alloc _).alloc _))).trans hE.2
          case measure => simp [intOf]; omega
      · have hltI : ¬ (j : Int) < ((Tab.nth t i).methods.length : Int) := by omega
        obtain rfl : j = (Tab.nth t i).methods.length := by omega
        have HM := Lib.hid hM
        have HF := Lib.hid hf
        have HO := Lib.hid hO
        have HL := Lib.hid hlen
        clear hM hf hO hc0 hlt hlen
        gi_wp2
        refine ⟨HO.out, ⟨ms, v, HM.out, ?_, ?_⟩, HO0.out.trans' HO.out fun k hk h => h.elim id fun h => by omega⟩
        · rw [HF.out, List.take_length, mthsOf_snoc, List.foldl_append]
        · rw [mthsOf_snoc, List.length_append]; exact HL.out
  case done =>
    rintro D W hD ⟨⟨ms, v, hM, hf, hl⟩, hO⟩ hd
    rw [mthsOf_all] at hf
    have hL := mthsOf_le hS (s := s) (List.prefix_refl (bk (Tab.line t s) 0))
    have HD := Lib.hid hD
    clear hD
    have hc := hM.box.cell 0
    simp at hc
    have HO := Lib.hid (show Only (· = D) W (W.putObj D (.deferred none)) from Only.putObj (Only.refl (· = D) W) (.inl rfl) _)
    have HM := Lib.hid hM
    have HF := Lib.hid hf
    have HL := Lib.hid (Nat.le_trans hl hL)
    obtain ⟨va', vc', rfl⟩ := owns_slice_n hM.row
    clear hM hO hf hl hL
    go_wp2
    refine ⟨by simp, .inl ⟨_, _, rfl, run_takeDeferred hd, ?_⟩⟩
    exact ⟨_, results_tmp rfl _ _ _, ms, _, rfl, HF.out, owns_base (owns_only HM.out.row HO.out (by intro g hg e; have := HD.out; omega)) (by omega),
      fun x hx => owns_base (owns_only (HM.out.rows x hx) HO.out (by intro g hg e; have := HD.out; omega)) (by omega), HL.out, HM.out.kept.onlyS HO.out (by intro k e; have := HD.out; omega)⟩
  case stop =>
    rintro D c pre W _ _ h _
    exact h.elim

end Go.Proofs.YtdceafncncgfbaaDoor
