/- The contract of table.Fields. -/
import Derived.Test.YtnjgagbblkjjeaaGreatDoorCol
import Derived.Test.YtnjgagbblkjjeaaGreatDoorBkw
set_option linter.unusedSimpArgs false
set_option linter.unusedVariables false
set_option maxRecDepth 100000
namespace Go.Proofs.YtnjgagbblkjjeaaGreatDoor
open Go.ChangeShapes Go.WideShapes Go.ChangeAt Go.RowKit Go.Shelf
attribute [local go_sem] Oper.semAt_some

/-- No list of a table is long. -/
structure Small (t : List Tab.C) : Prop where
  len : t.length ≤ 1000
  fields : ∀ c ∈ t, c.fields.length ≤ 1000
  methods : ∀ c ∈ t, c.methods.length ≤ 1000
  params : ∀ c ∈ t, ∀ m ∈ c.methods, m.params.length ≤ 1000

theorem Only.trans' {S T : Nat → Prop} {a w w' : World} (h : Only S a w) (k : Only T w w') (hs : ∀ k, k < a.heap.size → T k → S k) : Only S a w' :=
  ⟨k.os.trans h.os, k.output.trans h.output, Nat.le_trans h.size k.size, fun i hi hn => (k.block i (Nat.lt_of_lt_of_le hi h.size) (fun ht => hn (hs i hi ht))).trans (h.block i hi hn)⟩

def vCells (x : Tab.V) : List Value := [.string x.name, .string x.typ]
theorem vCells_len (x : Tab.V) : (vCells x).length = 2 := rfl

theorem info_var : (Tryz.prog.info? 50).map (fun i => (i.zero, i.size, i.bytes)) = some (some (.agg #[.string ⟨#[]⟩, .string ⟨#[]⟩]), 2, 32) := by kernel_rfl

/-- What a list of variables yields to append. -/
theorem src_vars {w : World} {v : Value} {l : List Tab.V} (h : Row 2 VarAt w v l) : Src Tryz.prog 2 43 v l.length (l.flatMap vCells) w := by
  obtain ⟨a, c, rfl, h1, h2, h3⟩ := h
  cases a with
  | none =>
    cases l with
    | nil => exact Src.ofNil w Tryz.underlying43 c
    | cons x r =>
      obtain ⟨b, o, e, _⟩ := h3 0 x rfl
      cases e
  | some ad =>
    refine Src.ofSlice w Tryz.underlying43 ad l.length c _ (flat_len vCells vCells_len l) ?_ ?_
    · intro j u hu
      have hj : j < l.length * 2 := by
        have := (List.getElem?_eq_some_iff.1 hu).1
        rwa [flat_len vCells vCells_len l] at this
      have hx : l[j / 2]? = some l[j / 2] := List.getElem?_eq_getElem (by omega)
      obtain ⟨b, o, e, hv⟩ := h3 _ _ hx
      cases e
      have hf := flat_at vCells vCells_len l (j / 2) (j % 2) _ hx (Nat.mod_lt _ (by omega))
      rw [show j / 2 * 2 + j % 2 = j by omega, hu] at hf
      rw [addr_plain]
      rcases (show j % 2 = 0 ∨ j % 2 = 1 by omega) with h0 | h0
      · rw [h0] at hf
        have hu' : u = .string l[j / 2].name := Option.some.inj hf
        rw [hu', show o + j = o + j / 2 * 2 by omega]
        exact hv.1
      · rw [h0] at hf
        have hu' : u = .string l[j / 2].typ := Option.some.inj hf
        rw [hu', show o + j = o + j / 2 * 2 + 1 by omega]
        exact hv.2.1
    · intro u hu
      obtain ⟨x, _, hx⟩ := List.mem_flatMap.1 hu
      simp [vCells] at hx
      rcases hx with rfl | rfl <;> rfl

/-- A row of variables of one's own, as a list. -/
theorem row_of_owns {w : World} {base : Nat} {v : Value} {l : List Tab.V} (h : w.ownsRow base 50 2 v l.length (l.flatMap vCells)) (hl : ∀ x ∈ l, x.name.size ≤ maxLen ∧ x.typ.size ≤ maxLen) : Row 2 VarAt w v l := by
  rcases h.2 with ⟨rfl, h0⟩ | ⟨g, cap, cur, rfl, hg1, hg2, hg3, hg4, hg5, hg6⟩
  · obtain rfl : l = [] := List.eq_nil_of_length_eq_zero h0
    exact Row.nil
  · refine ⟨_, cap, rfl, hg3, hg4, fun i x hx => ⟨g, 0, rfl, ?_⟩⟩
    have f0 := flat_at vCells vCells_len l i 0 x hx (by omega)
    have f1 := flat_at vCells vCells_len l i 1 x hx (by omega)
    have c0 := h.cells (g := g) rfl _ _ f0
    have c1 := h.cells (g := g) rfl _ _ f1
    rw [addr_plain] at c0 c1
    refine ⟨by simpa using c0, by simpa [Nat.add_assoc] using c1, hl x (List.mem_of_getElem? hx)⟩

/-- The fields of the classes at some places. -/
def fldsOf (t : List Tab.C) (pre : List (Nat × Nat)) : List Tab.V := pre.flatMap fun y => (Tab.nth t y.1).fields
theorem fldsOf_snoc (t : List Tab.C) (pre : List (Nat × Nat)) (y : Nat × Nat) : fldsOf t (pre ++ [y]) = fldsOf t pre ++ (Tab.nth t y.1).fields := by unfold fldsOf; simp
theorem fldsOf_all (t : List Tab.C) (s : ByteArray) : fldsOf t (bk (Tab.line t s) 0) = Tab.fields t s := by
  unfold fldsOf Tab.fields
  rw [← bk_fst, List.flatMap_map]
theorem nth_mem {t : List Tab.C} {i : Nat} (h : i < t.length) : Tab.nth t i ∈ t := List.mem_of_getElem? (Tab.of_nth h)
theorem flat_le {α β : Type} (f : α → List β) (n : Nat) : ∀ l : List α, (∀ x ∈ l, (f x).length ≤ n) → (l.flatMap f).length ≤ l.length * n
  | [], _ => by simp
  | y :: r, h => by
    have h1 := flat_le f n r fun x hx => h x (List.mem_cons_of_mem _ hx)
    have h2 := h y (List.mem_cons_self ..)
    rw [List.flatMap_cons, List.length_append, List.length_cons, Nat.add_mul]
    omega
theorem bk_len {α : Type} (L : List α) : (bk L 0).length = L.length := by unfold bk; simp
theorem pre_line {t : List Tab.C} {s : ByteArray} {pre : List (Nat × Nat)} (h : pre <+: bk (Tab.line t s) 0) : ∀ y ∈ pre, y.1 < t.length := fun y hy => Tab.line_lt (List.mem_of_getElem? (bk_mem (h.subset hy)))
theorem fldsOf_le {t : List Tab.C} (hS : Small t) {s : ByteArray} {pre : List (Nat × Nat)} (h : pre <+: bk (Tab.line t s) 0) : (fldsOf t pre).length ≤ 1001000 := by
  have h1 := flat_le (fun y : Nat × Nat => (Tab.nth t y.1).fields) 1000 pre fun y hy => hS.fields _ (nth_mem (pre_line h y hy))
  have h2 := h.length_le
  have h3 := Tab.line_len t s
  have h4 := hS.len
  rw [bk_len] at h2
  unfold fldsOf
  have : pre.length ≤ 1001 := by omega
  have := Nat.mul_le_mul_right 1000 this
  omega

/-- Within the loop: the fields so far. -/
def FieI (t : List Tab.C) (br n₁ : Nat) (w5 : World) (pre : List (Nat × Nat)) (W : World) : Prop :=
  (∃ v, Boxed W br 43 v ∧ W.ownsRow n₁ 50 2 v (fldsOf t pre).length ((fldsOf t pre).flatMap vCells)) ∧ Only (· = br) w5 W

theorem fie_end {t : List Tab.C} {br n₁ : Nat} {w5 W w1 : World} {pre : List (Nat × Nat)} {y : Nat × Nat} {v v' : Value} (hO : Only (fun k => k = br ∨ n₁ ≤ k) W w1) (hV : Blk w1 br 43 #[v])
    (hW : w1.ownsRow n₁ 50 2 v' ((fldsOf t pre).length + (Tab.nth t y.1).fields.length) ((fldsOf t pre).flatMap vCells ++ (Tab.nth t y.1).fields.flatMap vCells)) (hK : Only (· = br) w5 W) (hbr : br < w5.heap.size) (hn : w5.heap.size ≤ n₁) :
    Only (fun k => k = br ∨ n₁ ≤ k) W (w1.setCell ⟨br, 0, none⟩ v') ∧ FieI t br n₁ w5 (pre ++ [y]) (w1.setCell ⟨br, 0, none⟩ v') := by
  have hO2 := hO.setCell (p := ⟨br, 0, none⟩) (.inl (.inl rfl)) v'
  refine ⟨hO2, ⟨v', hV.put 0 _, ?_⟩, hK.trans' hO2 fun k hk h => h.elim id fun e => by omega⟩
  have := owns_only hW ((Only.refl (· = br) w1).put 0 v') (fun g hg => by omega)
  rw [fldsOf_snoc, List.flatMap_append, List.length_append]
  exact this

theorem wpIn_range_back {g : Operand} {ps : Array Tmp} {assign body : Code} {Q : Exit → Act → World → Prop} {av : Act} {w w0 : World} {Bb base : Nat} {v : Value} (a : Option Addr) (c : Nat) (t : List Tab.C) (s : ByteArray) (B : Nat → Prop)
    (hg : av.eval g = .func (.func 143) #[] #[.pointer (some ⟨Bb, 0, none⟩)])
    (hT : TabAt w0 (.slice a t.length c) t) (ht : t.length ≤ 1000) (hB1 : Blk w Bb 121 #[v]) (hrow : w.ownsRow base 111 1 v (Tab.line t s).length ((Tab.line t s).map (elC a)))
    (hB : ∀ k, B k → k < w.heap.size ∧ k ≠ Bb ∧ k < base) (hps : ps.size = 2)
    (I : List (Nat × Nat) → World → Prop) (Ix : Code → List (Nat × Nat) → World → Prop)
    (hI : ∀ s A B, I s A → Only (fun k => w.heap.size ≤ k ∧ k < w.heap.size + 2) A B → I s B)
    (hIx : ∀ c s A B, Ix c s A → Only (fun k => w.heap.size ≤ k ∧ k < w.heap.size + 2) A B → Ix c s B)
    (h0 : I [] w) (a₁ : Nat × Nat → Act)
    (hassign : ∀ (l : Nat) (x : Nat × Nat) (W : World) (K : Act → World → Prop), K (a₁ x) W →
      assign.wpIn (Fence.wide.inRound l) 1 Tryz.prog (Exit.then K (fun _ _ _ => False)) { tmps := (ps.zip #[.int .i64 x.2, elC a x.1]).foldl (fun t (p, v) => t.setIfInBounds p v) av.tmps, defers := [] } W)
    (hbody : ∀ (l : Nat) (pre : List (Nat × Nat)) (i k b o : Nat) (W : World), l = w.heap.size + 1 → (∃ r, W.heap[l]? = some (.loop r)) → I pre W → w.heap.size + 2 + 0 ≤ W.heap.size → (pre ++ [(i, k)]) <+: bk (Tab.line t s) 0 → i < t.length → a = some ⟨b, o, none⟩ → ClsAt w0 b (o + i * 4) (Tab.nth t i) →
      body.wpIn (Fence.wide.inRound l) 1 Tryz.prog (ownPostW (fun k => B k ∨ w.heap.size + 2 ≤ k) I Ix (pre ++ [(i, k)]) W) (a₁ (i, k)) W)
    (hdone : ∀ (D : Nat) (W : World), D = w.heap.size → I (bk (Tab.line t s) 0) W → W.heap[D]? = some (.deferred (some [])) → Q .normal { av with defers := { target := .collected D, args := #[] } :: av.defers } W)
    (hstop : ∀ (D : Nat) (c : Code) (pre : List (Nat × Nat)) (W : World), D = w.heap.size → pre <+: bk (Tab.line t s) 0 → Ix c pre W → W.heap[D]? = some (.deferred (some [])) → c.wpIn Fence.wide 3 Tryz.prog Q { av with defers := { target := .collected D, args := #[] } :: av.defers } W) :
    (Code.rangeFunc g ps assign body).wpIn Fence.wide 3 Tryz.prog Q av w := by
  have l1 := hB1.lt
  obtain ⟨av', cv, hv, hge⟩ : ∃ av' cv, v = .slice av' (Tab.line t s).length cv ∧ ∀ g, v.ownBlock = some g → base ≤ g ∧ g < w.heap.size := by
    rcases hrow.2 with ⟨rfl, h0⟩ | ⟨g, cap, cur, rfl, hg1, hg2, _⟩
    · exact ⟨none, 0, by rw [h0], fun g h => by simp [Value.ownBlock] at h⟩
    · refine ⟨_, cap, rfl, fun g' h => ?_⟩
      have : g = g' := by simpa [Value.ownBlock] using h
      subst this
      exact ⟨hg1, (Array.getElem?_eq_some_iff.1 hg2).1⟩
  refine wpIn_rangeFunc_ownW (F := Fence.wide) (n := 3) rfl (by omega) hg trivial (enters_of Tryz.func143 (by kernel_rfl) rfl)
    (It := fun _ => False) (U := fun k => B k ∨ w.heap.size + 2 ≤ k) (S := (· = bk (Tab.line t s) 0)) (Sp := (· <+: bk (Tab.line t s) 0)) (G := (· <+: bk (Tab.line t s) 0)) (m := 0) (encs := fun y : Nat × Nat => #[.int .i64 y.2, elC a y.1])
    (fun W1 hk1 hs1 => back1_own (3 - 1) (by omega) (Tab.line t s) (evC a) av' cv Bb _ (fun W => Only B w W) W1 (by have := Tab.line_len t s; omega) ?_ ?_ ?_ (Only.of_kept hk1))
    (fun k e => e.elim) (fun k h => ?_) (fun _ => hps.symm) I Ix (fun s A B h o => hI s A B h (o.mono fun k _ e => e.elim (fun f => f.elim) id)) (fun c s A B h o => hIx c s A B h (o.mono fun k _ e => e.elim (fun f => f.elim) id)) h0 a₁ hassign ?_ ?_ ?_
  · intro l A B' hl hM hO
    exact hM.trans' hO fun k hk h => h.elim (fun h => h.elim id fun h => by omega) (fun h => by omega)
  · intro W hM
    have := (hB1.only hM fun h => (hB _ h).2.1 rfl).cell 0
    rw [hv] at this
    simpa using this
  · intro W hM k x hx
    have hx' : ((Tab.line t s).map (elC a))[k]? = some (elC a x) := by rw [List.getElem?_map, hx]; rfl
    rcases hrow.2 with ⟨rfl, h0⟩ | ⟨g, cap, cur, rfl, hg1, hg2, hg3, hg4, hg5, hg6⟩
    · obtain h0' := List.eq_nil_of_length_eq_zero h0
      rw [h0'] at hx
      simp at hx
    · cases hv
      refine ⟨g, 0, rfl, ?_⟩
      have hc := hrow.cells (g := g) rfl k _ hx'
      rw [addr_plain] at hc
      exact (World.cell?_of_block (w := w) (hM.block g (Array.getElem?_eq_some_iff.1 hg2).1 (fun h => by have := (hB _ h).2.2; omega))).trans hc
  · rcases h with h | h
    · have := (hB k h).1
      exact ⟨by omega, by omega⟩
    · exact ⟨by omega, by omega⟩
  · rintro l pre ⟨i, k⟩ W hl hr hi hpre hsz
    have hlt : i < t.length := pre_line (t := t) (s := s) hpre (i, k) (by simp)
    obtain ⟨b, o, e, hc⟩ := Row.cellsC hT hlt
    exact hbody l pre i k b o W hl hr hi hsz hpre hlt e hc
  · rintro D xs W e rfl hi hd
    exact hdone D W e hi hd
  · rintro D c pre W e hp hi hd
    exact hstop D c pre W e hp hi hd

end Go.Proofs.YtnjgagbblkjjeaaGreatDoor
