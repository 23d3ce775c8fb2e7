/- The contract of words.Reserved: a list of one's own that holds the reserved words in their order. What was in the world stays as it was. -/
import Derived.Test.YtijflampkdpgfaaDoorKey
import Derived.Laws.Rows
set_option linter.unusedSimpArgs false
set_option linter.unusedVariables false
namespace Go.Proofs.YtijflampkdpgfaaDoor
open Go.ChangeShapes Go.WideShapes Go.ChangeAt Go.RowKit Go.Shelf
attribute [local go_sem] Oper.semAt_some

/-- One more behind a row that a box holds: nothing but the box and blocks from n₁ on has turned. -/
theorem appended_only {W w1 : World} {n₁ B : Nat} {t e : TypeId} {size : Nat} {v v' : Value} {k m : Nat} {xs ys : List Value} {tmp : Obj}
    (hv : Boxed W B t v) (hte : t ≠ e) (hrow : W.ownsRow n₁ e size v k xs) (hn₁ : n₁ ≤ W.heap.size)
    (hown' : w1.ownsRow n₁ e size v' m ys) (hgrow : (W.alloc tmp).grownBy w1 v.ownBlock) :
    Boxed w1 B t v ∧ Boxed (w1.setCell ⟨B, 0, none⟩ v') B t v' ∧ (w1.setCell ⟨B, 0, none⟩ v').ownsRow n₁ e size v' m ys ∧ KeepsOthers W (w1.setCell ⟨B, 0, none⟩ v') ∧ Only (fun k => k = B ∨ n₁ ≤ k) W (w1.setCell ⟨B, 0, none⟩ v') := by
  have hv1 : Boxed w1 B t v := (hv.alloc tmp).kept hgrow (hv.not_row hte hrow)
  refine ⟨hv1, hv1.set v', hown'.kept (grownBy_setCell' w1 B v') (.inr (hv1.not_row hte hown').symm), ?_, ?_⟩
  · refine ((KeepsOthers.alloc W tmp).trans (KeepsOthers.of_grownBy hgrow fun j o ej hj => ?_)).trans (KeepsOthers.setCell _ _ _)
    rcases (hrow.alloc tmp).2 with ⟨rfl, _⟩ | ⟨g, cap, cur, rfl, _, hgb, _⟩
    · simp [Value.ownBlock] at ej
    · obtain rfl : g = j := by simpa [Value.ownBlock] using ej
      rw [hgb] at hj; cases hj; rfl
  · refine (((Only.refl _ W).alloc tmp).grown hgrow fun j ej => ?_).setCell (p := ⟨B, 0, none⟩) (.inl (.inl rfl)) v'
    rcases hrow.2 with ⟨rfl, _⟩ | ⟨g, cap, cur, rfl, hb, _, _⟩
    · simp [Value.ownBlock] at ej
    · obtain rfl : g = j := by simpa [Value.ownBlock] using ej
      exact .inl (.inr hb)

abbrev encS : ByteArray → Value := fun x => Value.string x

theorem info_str : (Tryd.prog.info? 9).map (fun i => (i.zero, i.size, i.bytes)) = some (some (.string ⟨#[]⟩), 1, 16) := by kernel_rfl

/-- Within the loop: the words so far. -/
def ResI (w : World) (pre : List ByteArray) (W : World) : Prop :=
  (∃ v, Boxed W w.heap.size 28 v ∧ W.ownsRow (w.heap.size + 1 + 1) 9 1 v pre.length (pre.map encS) ∧ (v = .slice none 0 0 ↔ pre = [])) ∧ Kept w W ∧ w.heap.size + 1 + 1 ≤ W.heap.size

theorem resI_from (w : World) (B : Nat) (hB : w.heap.size ≤ B) : OwnFrom B (ResI w) := by
  rintro pre X Y row ⟨h1, h2, h3⟩ hg hr
  exact ⟨(holdsRow_own (w.heap.size + 1 + 1) w.heap.size 28 9 1 (fun pre : List ByteArray => pre.length) (fun pre => pre.map encS) (fun pre v => v = .slice none 0 0 ↔ pre = [])) pre X Y row h1 hg (fun r e => (hr r e).2), h2.grown hg (fun k e => Nat.le_trans hB (hr k e).1), Nat.le_trans h3 hg.size⟩

/-- A block whose first cells are these texts. -/
def TxtAt (w : World) (g : Nat) (l : List ByteArray) : Prop := ∃ cur, w.heap[g]? = some (.cells cur 9 (0, 0)) ∧ cur.toList.take l.length = l.map encS

theorem TxtAt.kept {w w' : World} {g : Nat} {l : List ByteArray} (h : TxtAt w g l) (k : Kept w w') : TxtAt w' g l := by
  obtain ⟨cur, h1, h2⟩ := h
  exact ⟨cur, (k.block g (Array.getElem?_eq_some_iff.1 h1).1).trans h1, h2⟩

theorem TxtAt.lt {w : World} {g : Nat} {l : List ByteArray} (h : TxtAt w g l) : g < w.heap.size := by
  obtain ⟨cur, h1, h2⟩ := h
  exact (Array.getElem?_eq_some_iff.1 h1).1

theorem TxtAt.cell {w : World} {g : Nat} {l : List ByteArray} (h : TxtAt w g l) (k : Nat) (hk : k < l.length) : w.cell? ⟨g, k, none⟩ = some (.string l[k]) := by
  obtain ⟨cur, h1, h2⟩ := h
  rw [cell_of_row w g k cur _ _ h1, ← Array.getElem?_toList]
  have h3 : (cur.toList.take l.length)[k]? = (l.map encS)[k]? := by rw [h2]
  rw [List.getElem?_take_of_lt hk, List.getElem?_map, List.getElem?_eq_getElem hk] at h3
  exact h3

/-- A list of texts of one's own. -/
def Texts (w w' : World) (v : Value) (l : List ByteArray) : Prop := (∃ g c, v = .slice (some ⟨g, 0, none⟩) l.length c ∧ w.heap.size ≤ g ∧ TxtAt w' g l) ∧ Kept w w'

set_option maxRecDepth 100000 in
set_option maxHeartbeats 2000000 in
theorem reserved_b (w : World) (hT : Tb w) :
    Calls Tryd.prog 13 #[] w fun e w' => ∃ v, e = .returned v ∧ Texts w w' v Wrd.ws := by
  obtain ⟨i0, hi, hz0, hzz1, hzz2⟩ := info_parts info_str
  refine (callsIn_wide (n := 3)).1 (callsIn_of_wp_marks Tryd.func13 rfl trivial (wpIn_wide.2 ?_) rfl)
  simp only [Tryd.ntmps13, List.size_toArray, List.length_cons, List.length_nil, Nat.reduceAdd, Nat.reduceSub, Array.replicate_succ, Array.replicate_zero, List.push_toArray, List.append_toArray, List.nil_append, List.cons_append]
  go_wp2_with fail
  refine ((callsIn_wide (n := 1)).1 (fseq_in Fence.wide 1 trivial rfl Wrd.rs _)).mono ?_
  rintro e w' ⟨rfl, rfl⟩
  go_wp2_with fail
  have hK0 : Kept w ((w.alloc (.cells #[.slice none 0 0] 28)).alloc (.cells #[.string Wrd.rs] 9)) := ((Kept.refl w).alloc _).alloc _
  have b1 := (Boxed.new w 28 (.slice none 0 0)).alloc (.cells #[.string Wrd.rs] 9)
  have b3 := Blk.new (w.alloc (.cells #[.slice none 0 0] 28)) 9 #[.string Wrd.rs]
  simp only [World.size_alloc] at b3
  have hT0 := hT.kept hK0
  have hlt := hT.lt
  refine wpIn_wide.1 (wpIn_rangeFunc_ownG (F := Fence.wide) (n := 3) rfl (by omega) (gf := 40) (lb := #[.pointer (some ⟨w.heap.size + 1, 0, none⟩)]) rfl trivial (enters_of Tryd.func40 (by kernel_rfl) rfl)
    (fseq_stops Fence.wide (3 - 1) trivial rfl (by omega) (w.heap.size + 1) Wrd.rs Wrd.size_rs Wrd.ascii_rs _ hT0 (by simp) (b3.cell 0)) kp3_t (kp3_b hT0 (by simp)) (Below.refl _ _) (fun _ => rfl)
    (ResI w) (fun _ _ _ => False) (resI_from w _ (by simp; omega)) (fun _ _ _ _ _ hs _ _ => hs)
    ⟨⟨_, b1, World.ownsRow_nil _ _ _ _, by simp⟩, hK0, by simp⟩
    (fun x => { tmps := #[.slice none 0 0, .pointer (some ⟨w.heap.size, 0, none⟩), .string x, .func (.func 40) #[] #[.pointer (some ⟨w.heap.size + 1, 0, none⟩)], .string x, undef, undef, undef, undef, undef], defers := [] }) ?assign ?body ?done ?stop)
  case assign =>
    intro l x W K hK
    gi_wp2
    exact hK
  case body =>
    rintro l pre x W ⟨⟨v, hv, hrow, hnil⟩, hKp, hsz⟩ hlt'
    rw [Wrd.flds_rs, Wrd.len_ws] at hlt'
    have hc := hv.cell
    gi_wp2_with (gi_at_builtin; refine wpListIn_append_own _ rfl _ _ 28 rfl (w.heap.size + 1 + 1) 9 i0 (.string ⟨#[]⟩) 1 16 Tryd.underlying28 hi hz0 hzz1 hzz2 rfl (by decide) _ _ _ rfl (hrow.alloc _) ⟨W.heap.size, 0, none⟩ 1 1 [encS x] rfl rfl (cell_one_new _ _ _) (by simp [Value.oneCell']) (by unfold maxLen; omega) (by omega) (by simp; omega) ?_; intro v' w1 hown' hgrow _; obtain ⟨g', cap', rfl⟩ := ownsRow_succ hown'; obtain ⟨hv1, hv2, hr2, hk2, hb2⟩ := appended_only hv (by decide) hrow hsz hown' hgrow; have hc1 := hv1.cell; have hf1 := hv1.frozen)
    exact ⟨hk2.from _, ⟨hb2.size, fun k hk => hb2.block k (by omega) (by omega)⟩, ⟨_, hv2, by simpa using hr2, by simp⟩, hKp.only hb2 rfl (fun k hk => by omega), by have := hb2.size; omega⟩
  case done =>
    rintro D ys W hD hys ⟨⟨v, hv, hrow, hnil⟩, hKp, hsz⟩ hK
    subst hys
    rw [Wrd.flds_rs] at hrow hnil
    have hc := hv.cell
    have hvn : v ≠ .slice none 0 0 := fun e => by have := hnil.1 e; cases this
    obtain ⟨g, cap, cur, rfl, hg1, hg2, hg3, hg4, hg5, hg6⟩ := hrow.2.resolve_left (fun h => hvn h.1)
    clear hnil
    go_wp2
    refine ⟨by simp, .inl ⟨_, _, rfl, run_takeDeferred hK, ?_⟩⟩
    refine ⟨_, results_tmp rfl _ _ _, _, rfl, ⟨g, cap, rfl, by omega, cur, ?_, ?_⟩, hKp.grown (grownBy_putObj' _ D (.deferred none)) (fun k e => by cases e; simp at hD; omega)⟩
    · rw [World.putObj_heap_other (by rintro rfl; rw [hg2] at hK; cases hK)]; exact hg2
    · simpa using hg6
  case stop =>
    rintro D c pre W _ _ h _
    exact h.elim

end Go.Proofs.YtijflampkdpgfaaDoor
