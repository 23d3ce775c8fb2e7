/- The contract of slices.Backward at a row of addresses: whatever body a loop over it has. The contract of table.Fields. The contract of table.Fields. -/
import Derived.Test.YtdceafncncgfbaaDoorLnr
import Derived.Test.YtdceafncncgfbaaDoorCol
set_option linter.unusedSimpArgs false
set_option linter.unusedVariables false
set_option maxRecDepth 100000
namespace Go.Proofs.YtdceafncncgfbaaDoor
open Go.RowKit Go.Shelf
attribute [local go_sem] Oper.semAt_some

/-- The things from place m on, the last one first, each with its place. -/
def bk {α : Type} (L : List α) (m : Nat) : List (α × Nat) := (L.zipIdx.drop m).reverse
theorem bk_all {α : Type} (L : List α) : bk L L.length = [] := by unfold bk; simp
theorem bk_next {α : Type} {L : List α} {m : Nat} {x : α} (h : L[m]? = some x) : bk L (m + 1) ++ [(x, m)] = bk L m := by
  unfold bk
  obtain ⟨hlt, rfl⟩ := List.getElem?_eq_some_iff.1 h
  rw [show L.zipIdx.drop m = (L[m], m) :: L.zipIdx.drop (m + 1) from by
    rw [List.drop_eq_getElem_cons (by simpa using hlt)]
    simp]
  simp
theorem bk_pre {α : Type} (L : List α) (m : Nat) : bk L m <+: bk L 0 := by
  unfold bk
  rw [List.reverse_prefix, List.drop_zero]
  exact List.drop_suffix _ _
theorem bk_fst {α : Type} (L : List α) : (bk L 0).map Prod.fst = L.reverse := by
  unfold bk
  simp [List.map_reverse, List.zipIdx_map_fst]
theorem bk_mem {α : Type} {L : List α} {x : α} {k : Nat} (h : (x, k) ∈ bk L 0) : L[k]? = some x := by
  unfold bk at h
  rw [List.drop_zero, List.mem_reverse] at h
  simpa using (List.mem_zipIdx_iff_getElem?.1 h)

theorem back_lineC (v : Value) (w : World) : (∃ a n c, v = .slice a n c) →
    Calls Tryd.prog 68 #[v] w fun e w' => e = .returned (.func (.func 81) #[] #[.pointer (some ⟨w.heap.size, 0, none⟩)]) ∧
      w' = w.alloc (.cells #[v] 119) := by
  rintro ⟨a, n, c, rfl⟩
  go_enter Tryd.func68, Tryd.ntmps68
  go_wp2_with fail
  go_ret
  exact ⟨rfl, rfl⟩

set_option maxHeartbeats 4000000 in
theorem back1_own {α : Type} (n : Nat) (hn : 1 ≤ n) (L : List α) (ev : α → Option Addr) (a : Option Addr) (c B : Nat) (U : Nat → Prop) (M : World → Prop) (W1 : World) (hlen : L.length ≤ 1000001)
    (hM : ∀ l A B', l + 1 = W1.heap.size → M A → Only (fun k => U k ∨ k = l) A B' → M B') (hMB : ∀ W, M W → W.cell? ⟨B, 0, none⟩ = some (.slice a L.length c))
    (hMe : ∀ W, M W → ∀ k x, L[k]? = some x → ∃ b o, a = some ⟨b, o, none⟩ ∧ W.cell? ⟨b, o + k, none⟩ = some (.pointer (ev x))) (hM1 : M W1) :
    SeqOwn Fence.wide n Tryd.prog 81 #[.pointer (some ⟨B, 0, none⟩)] (fun y : α × Nat => #[.int .i64 y.2, .pointer (ev y.1)]) (fun _ => False) U (· = bk L 0) (· <+: bk L 0) (· <+: bk L 0) 0 W1 := by
  intro l J Jx hl abJ abX hY h0
  have c0 := hMB W1 hM1
  refine callsIn_of_wp Tryd.func81 rfl trivial ?_ rfl
  simp only [Tryd.ntmps81, List.size_toArray, List.length_cons, List.length_nil, Nat.reduceAdd, Nat.reduceSub, Array.replicate_succ, Array.replicate_zero, List.push_toArray, List.append_toArray, List.nil_append, List.cons_append]
  gi_wp2
  clear c0
  gi_loopw [3] (fun i wr => ∃ m : Nat, i = .int .i64 ((m : Int) - 1) ∧ m ≤ L.length ∧ J (bk L m) wr ∧ M wr ∧ W1.heap.size ≤ wr.heap.size) (fun i wr => (intOf i + 1).toNat)
  case atStart => exact ⟨L.length, by go_num, Nat.le_refl _, by rw [bk_all]; exact h0, hM1, Nat.le_refl _⟩
  case round =>
    obtain ⟨m, rfl, hm, hJ, hMr, hsz⟩ := hrel
    have c0 := hMB wr hMr
    by_cases h0m : m = 0
    · subst h0m
      have HJ := Lib.hid hJ
      clear hJ h0 hY hMr hM1
      gi_wp2
      refine bodyPost_end (results_none rfl _ _ _) rfl ?_
      exact ⟨⟨_, rfl⟩, .inl ⟨_, rfl, HJ.out⟩⟩
    · obtain ⟨k, rfl⟩ : ∃ k, m = k + 1 := ⟨m - 1, by omega⟩
      have hk : k < L.length := by omega
      have hx : L[k]? = some L[k] := List.getElem?_eq_getElem hk
      generalize L[k] = x at hx
      obtain ⟨b, o, rfl, hc⟩ := hMe wr hMr k x hx
      have hge : (0 : Int) ≤ (k : Int) := by omega
      have hkl : (k : Int) < (L.length : Int) := by omega
      have hki : (((k + 1 : Nat) : Int)) - 1 = (k : Int) := by omega
      obtain ⟨fn, tmps, assign, body, hy, hR⟩ := hY (bk L (k + 1)) (x, k) wr hJ (by rw [bk_next hx]; exact bk_pre L k) (by omega)
      have HB := Lib.hid (bk_next hx)
      have HM := Lib.hid hMr
      have HP := Lib.hid (bk_pre L k)
      dsimp only at hy
      rw [hki]
      clear hJ h0 hY hMr hM1 hx hMB hMe hki h0m
      gi_wp2
      refine hR.mono ?_
      rintro e W3 (⟨rfl, hJ3, hk3⟩ | ⟨rfl, hJx3⟩)
      · have HJ := Lib.hid hJ3
        have HK := Lib.hid hk3
        clear hJ3 hk3
        gi_wp2
        go_roundw
        case rel => exact ⟨k, by go_num, by omega, by rw [← HB.out]; exact HJ.out, hM _ _ _ hl HM.out HK.out, by have := HK.out.size; omega⟩
        case measure => simp [intOf]
      · gi_wp2
        refine bodyPost_ret (results_none rfl _ _ _) rfl ?_
        exact ⟨⟨_, rfl⟩, .inr ⟨_, by rw [HB.out]; exact HP.out, hJx3⟩⟩

end Go.Proofs.YtdceafncncgfbaaDoor

namespace Go.Proofs.YtdceafncncgfbaaDoor
open Go.ChangeShapes Go.WideShapes Go.ChangeAt Go.RowKit Go.Shelf
attribute [local go_sem] Oper.semAt_some

/-- No list of a table is long. -/
structure Small (t : List Tab.C) : Prop where
  len : t.length ≤ 1000
  fields : ∀ c ∈ t, c.fields.length ≤ 1000
  methods : ∀ c ∈ t, c.methods.length ≤ 1000
  params : ∀ c ∈ t, ∀ m ∈ c.methods, m.params.length ≤ 1000

theorem Only.trans' {S T : Nat → Prop} {a w w' : World} (h : Only S a w) (k : Only T w w') (hs : ∀ k, k < a.heap.size → T k → S k) : Only S a w' :=
  ⟨k.os.trans h.os, k.output.trans h.output, Nat.le_trans h.size k.size, fun i hi hn => (k.block i (Nat.lt_of_lt_of_le hi h.size) (fun ht => hn (hs i hi ht))).trans (h.block i hi hn)⟩

def vCells (x : Tab.V) : List Value := [.string x.name, .string x.typ]
theorem vCells_len (x : Tab.V) : (vCells x).length = 2 := rfl

theorem info_var : (Tryd.prog.info? 58).map (fun i => (i.zero, i.size, i.bytes)) = some (some (.agg #[.string ⟨#[]⟩, .string ⟨#[]⟩]), 2, 32) := by kernel_rfl

/-- What a list of variables yields to append. -/
theorem src_vars {w : World} {v : Value} {l : List Tab.V} (h : Row 2 VarAt w v l) : Src Tryd.prog 2 59 v l.length (l.flatMap vCells) w := by
  obtain ⟨a, c, rfl, h1, h2, h3⟩ := h
  cases a with
  | none =>
    cases l with
    | nil => exact Src.ofNil w Tryd.underlying59 c
    | cons x r =>
      obtain ⟨b, o, e, _⟩ := h3 0 x rfl
      cases e
  | some ad =>
    refine Src.ofSlice w Tryd.underlying59 ad l.length c _ (flat_len vCells vCells_len l) ?_ ?_
    · intro j u hu
      have hj : j < l.length * 2 := by
        have := (List.getElem?_eq_some_iff.1 hu).1
        rwa [flat_len vCells vCells_len l] at this
      have hx : l[j / 2]? = some l[j / 2] := List.getElem?_eq_getElem (by omega)
      obtain ⟨b, o, e, hv⟩ := h3 _ _ hx
      cases e
      have hf := flat_at vCells vCells_len l (j / 2) (j % 2) _ hx (Nat.mod_lt _ (by omega))
      rw [show j / 2 * 2 + j % 2 = j by omega, hu] at hf
      rw [addr_plain]
      rcases (show j % 2 = 0 ∨ j % 2 = 1 by omega) with h0 | h0
      · rw [h0] at hf
        have hu' : u = .string l[j / 2].name := Option.some.inj hf
        rw [hu', show o + j = o + j / 2 * 2 by omega]
        exact hv.1
      · rw [h0] at hf
        have hu' : u = .string l[j / 2].typ := Option.some.inj hf
        rw [hu', show o + j = o + j / 2 * 2 + 1 by omega]
        exact hv.2.1
    · intro u hu
      obtain ⟨x, _, hx⟩ := List.mem_flatMap.1 hu
      simp [vCells] at hx
      rcases hx with rfl | rfl <;> rfl

/-- A row of variables of one's own, as a list. -/
theorem row_of_owns {w : World} {base : Nat} {v : Value} {l : List Tab.V} (h : w.ownsRow base 58 2 v l.length (l.flatMap vCells)) (hl : ∀ x ∈ l, x.name.size ≤ maxLen ∧ x.typ.size ≤ maxLen) : Row 2 VarAt w v l := by
  rcases h.2 with ⟨rfl, h0⟩ | ⟨g, cap, cur, rfl, hg1, hg2, hg3, hg4, hg5, hg6⟩
  · obtain rfl : l = [] := List.eq_nil_of_length_eq_zero h0
    exact Row.nil
  · refine ⟨_, cap, rfl, hg3, hg4, fun i x hx => ⟨g, 0, rfl, ?_⟩⟩
    have f0 := flat_at vCells vCells_len l i 0 x hx (by omega)
    have f1 := flat_at vCells vCells_len l i 1 x hx (by omega)
    have c0 := h.cells (g := g) rfl _ _ f0
    have c1 := h.cells (g := g) rfl _ _ f1
    rw [addr_plain] at c0 c1
    refine ⟨by simpa using c0, by simpa [Nat.add_assoc] using c1, hl x (List.mem_of_getElem? hx)⟩

/-- The fields of the classes at some places. -/
def fldsOf (t : List Tab.C) (pre : List (Nat × Nat)) : List Tab.V := pre.flatMap fun y => (Tab.nth t y.1).fields
theorem fldsOf_snoc (t : List Tab.C) (pre : List (Nat × Nat)) (y : Nat × Nat) : fldsOf t (pre ++ [y]) = fldsOf t pre ++ (Tab.nth t y.1).fields := by unfold fldsOf; simp
theorem fldsOf_all (t : List Tab.C) (s : ByteArray) : fldsOf t (bk (Tab.line t s) 0) = Tab.fields t s := by
  unfold fldsOf Tab.fields
  rw [← bk_fst, List.flatMap_map]
theorem nth_mem {t : List Tab.C} {i : Nat} (h : i < t.length) : Tab.nth t i ∈ t := List.mem_of_getElem? (Tab.of_nth h)
theorem flat_le {α β : Type} (f : α → List β) (n : Nat) : ∀ l : List α, (∀ x ∈ l, (f x).length ≤ n) → (l.flatMap f).length ≤ l.length * n
  | [], _ => by simp
  | y :: r, h => by
    have h1 := flat_le f n r fun x hx => h x (List.mem_cons_of_mem _ hx)
    have h2 := h y (List.mem_cons_self ..)
    rw [List.flatMap_cons, List.length_append, List.length_cons, Nat.add_mul]
    omega
theorem bk_len {α : Type} (L : List α) : (bk L 0).length = L.length := by unfold bk; simp
theorem pre_line {t : List Tab.C} {s : ByteArray} {pre : List (Nat × Nat)} (h : pre <+: bk (Tab.line t s) 0) : ∀ y ∈ pre, y.1 < t.length := fun y hy => Tab.line_lt (List.mem_of_getElem? (bk_mem (h.subset hy)))
theorem fldsOf_le {t : List Tab.C} (hS : Small t) {s : ByteArray} {pre : List (Nat × Nat)} (h : pre <+: bk (Tab.line t s) 0) : (fldsOf t pre).length ≤ 1001000 := by
  have h1 := flat_le (fun y : Nat × Nat => (Tab.nth t y.1).fields) 1000 pre fun y hy => hS.fields _ (nth_mem (pre_line h y hy))
  have h2 := h.length_le
  have h3 := Tab.line_len t s
  have h4 := hS.len
  rw [bk_len] at h2
  unfold fldsOf
  have : pre.length ≤ 1001 := by omega
  have := Nat.mul_le_mul_right 1000 this
  omega

/-- Within the loop: the fields so far. -/
def FieI (t : List Tab.C) (br n₁ : Nat) (w5 : World) (pre : List (Nat × Nat)) (W : World) : Prop :=
  (∃ v, Boxed W br 59 v ∧ W.ownsRow n₁ 58 2 v (fldsOf t pre).length ((fldsOf t pre).flatMap vCells)) ∧ Only (· = br) w5 W

theorem fie_end {t : List Tab.C} {br n₁ : Nat} {w5 W w1 : World} {pre : List (Nat × Nat)} {y : Nat × Nat} {v v' : Value} (hO : Only (fun k => k = br ∨ n₁ ≤ k) W w1) (hV : Blk w1 br 59 #[v])
    (hW : w1.ownsRow n₁ 58 2 v' ((fldsOf t pre).length + (Tab.nth t y.1).fields.length) ((fldsOf t pre).flatMap vCells ++ (Tab.nth t y.1).fields.flatMap vCells)) (hK : Only (· = br) w5 W) (hbr : br < w5.heap.size) (hn : w5.heap.size ≤ n₁) :
    Only (fun k => k = br ∨ n₁ ≤ k) W (w1.setCell ⟨br, 0, none⟩ v') ∧ FieI t br n₁ w5 (pre ++ [y]) (w1.setCell ⟨br, 0, none⟩ v') := by
  have hO2 := hO.setCell (p := ⟨br, 0, none⟩) (.inl (.inl rfl)) v'
  refine ⟨hO2, ⟨v', hV.put 0 _, ?_⟩, hK.trans' hO2 fun k hk h => h.elim id fun e => by omega⟩
  have := owns_only hW ((Only.refl (· = br) w1).put 0 v') (fun g hg => by omega)
  rw [fldsOf_snoc, List.flatMap_append, List.length_append]
  exact this

theorem wpIn_range_back {g : Operand} {ps : Array Tmp} {assign body : Code} {Q : Exit → Act → World → Prop} {av : Act} {w w0 : World} {Bb base : Nat} {v : Value} (a : Option Addr) (c : Nat) (t : List Tab.C) (s : ByteArray) (B : Nat → Prop)
    (hg : av.eval g = .func (.func 81) #[] #[.pointer (some ⟨Bb, 0, none⟩)])
    (hT : TabAt w0 (.slice a t.length c) t) (ht : t.length ≤ 1000) (hB1 : Blk w Bb 119 #[v]) (hrow : w.ownsRow base 120 1 v (Tab.line t s).length ((Tab.line t s).map (elC a)))
    (hB : ∀ k, B k → k < w.heap.size ∧ k ≠ Bb ∧ k < base) (hps : ps.size = 2)
    (I : List (Nat × Nat) → World → Prop) (Ix : Code → List (Nat × Nat) → World → Prop)
    (hI : ∀ s A B, I s A → Only (fun k => w.heap.size ≤ k ∧ k < w.heap.size + 2) A B → I s B)
    (hIx : ∀ c s A B, Ix c s A → Only (fun k => w.heap.size ≤ k ∧ k < w.heap.size + 2) A B → Ix c s B)
    (h0 : I [] w) (a₁ : Nat × Nat → Act)
    (hassign : ∀ (l : Nat) (x : Nat × Nat) (W : World) (K : Act → World → Prop), K (a₁ x) W →
      assign.wpIn (Fence.wide.inRound l) 1 Tryd.prog (Exit.then K (fun _ _ _ => False)) { tmps := (ps.zip #[.int .i64 x.2, elC a x.1]).foldl (fun t (p, v) => t.setIfInBounds p v) av.tmps, defers := [] } W)
    (hbody : ∀ (l : Nat) (pre : List (Nat × Nat)) (i k b o : Nat) (W : World), l = w.heap.size + 1 → (∃ r, W.heap[l]? = some (.loop r)) → I pre W → w.heap.size + 2 + 0 ≤ W.heap.size → (pre ++ [(i, k)]) <+: bk (Tab.line t s) 0 → i < t.length → a = some ⟨b, o, none⟩ → ClsAt w0 b (o + i * 4) (Tab.nth t i) →
      body.wpIn (Fence.wide.inRound l) 1 Tryd.prog (ownPostW (fun k => B k ∨ w.heap.size + 2 ≤ k) I Ix (pre ++ [(i, k)]) W) (a₁ (i, k)) W)
    (hdone : ∀ (D : Nat) (W : World), D = w.heap.size → I (bk (Tab.line t s) 0) W → W.heap[D]? = some (.deferred (some [])) → Q .normal { av with defers := { target := .collected D, args := #[] } :: av.defers } W)
    (hstop : ∀ (D : Nat) (c : Code) (pre : List (Nat × Nat)) (W : World), D = w.heap.size → pre <+: bk (Tab.line t s) 0 → Ix c pre W → W.heap[D]? = some (.deferred (some [])) → c.wpIn Fence.wide 3 Tryd.prog Q { av with defers := { target := .collected D, args := #[] } :: av.defers } W) :
    (Code.rangeFunc g ps assign body).wpIn Fence.wide 3 Tryd.prog Q av w := by
  have l1 := hB1.lt
  obtain ⟨av', cv, hv, hge⟩ : ∃ av' cv, v = .slice av' (Tab.line t s).length cv ∧ ∀ g, v.ownBlock = some g → base ≤ g ∧ g < w.heap.size := by
    rcases hrow.2 with ⟨rfl, h0⟩ | ⟨g, cap, cur, rfl, hg1, hg2, _⟩
    · exact ⟨none, 0, by rw [h0], fun g h => by simp [Value.ownBlock] at h⟩
    · refine ⟨_, cap, rfl, fun g' h => ?_⟩
      have : g = g' := by simpa [Value.ownBlock] using h
      subst this
      exact ⟨hg1, (Array.getElem?_eq_some_iff.1 hg2).1⟩
  refine wpIn_rangeFunc_ownW (F := Fence.wide) (n := 3) rfl (by omega) hg trivial (enters_of Tryd.func81 (by kernel_rfl) rfl)
    (It := fun _ => False) (U := fun k => B k ∨ w.heap.size + 2 ≤ k) (S := (· = bk (Tab.line t s) 0)) (Sp := (· <+: bk (Tab.line t s) 0)) (G := (· <+: bk (Tab.line t s) 0)) (m := 0) (encs := fun y : Nat × Nat => #[.int .i64 y.2, elC a y.1])
    (fun W1 hk1 hs1 => back1_own (3 - 1) (by omega) (Tab.line t s) (evC a) av' cv Bb _ (fun W => Only B w W) W1 (by have := Tab.line_len t s; omega) ?_ ?_ ?_ (Only.of_kept hk1))
    (fun k e => e.elim) (fun k h => ?_) (fun _ => hps.symm) I Ix (fun s A B h o => hI s A B h (o.mono fun k _ e => e.elim (fun f => f.elim) id)) (fun c s A B h o => hIx c s A B h (o.mono fun k _ e => e.elim (fun f => f.elim) id)) h0 a₁ hassign ?_ ?_ ?_
  · intro l A B' hl hM hO
    exact hM.trans' hO fun k hk h => h.elim (fun h => h.elim id fun h => by omega) (fun h => by omega)
  · intro W hM
    have := (hB1.only hM fun h => (hB _ h).2.1 rfl).cell 0
    rw [hv] at this
    simpa using this
  · intro W hM k x hx
    have hx' : ((Tab.line t s).map (elC a))[k]? = some (elC a x) := by rw [List.getElem?_map, hx]; rfl
    rcases hrow.2 with ⟨rfl, h0⟩ | ⟨g, cap, cur, rfl, hg1, hg2, hg3, hg4, hg5, hg6⟩
    · obtain h0' := List.eq_nil_of_length_eq_zero h0
      rw [h0'] at hx
      simp at hx
    · cases hv
      refine ⟨g, 0, rfl, ?_⟩
      have hc := hrow.cells (g := g) rfl k _ hx'
      rw [addr_plain] at hc
      exact (World.cell?_of_block (w := w) (hM.block g (Array.getElem?_eq_some_iff.1 hg2).1 (fun h => by have := (hB _ h).2.2; omega))).trans hc
  · rcases h with h | h
    · have := (hB k h).1
      exact ⟨by omega, by omega⟩
    · exact ⟨by omega, by omega⟩
  · rintro l pre ⟨i, k⟩ W hl hr hi hpre hsz
    have hlt : i < t.length := pre_line (t := t) (s := s) hpre (i, k) (by simp)
    obtain ⟨b, o, e, hc⟩ := Row.cellsC hT hlt
    exact hbody l pre i k b o W hl hr hi hsz hpre hlt e hc
  · rintro D xs W e rfl hi hd
    exact hdone D W e hi hd
  · rintro D c pre W e hp hi hd
    exact hstop D c pre W e hp hi hd

end Go.Proofs.YtdceafncncgfbaaDoor

namespace Go.Proofs.YtdceafncncgfbaaDoor
open Go.ChangeShapes Go.WideShapes Go.ChangeAt Go.RowKit Go.Shelf
attribute [local go_sem] Oper.semAt_some

set_option maxHeartbeats 2000000 in
theorem fields_c (a : Option Addr) (c : Nat) (t : List Tab.C) (s : ByteArray) (w : World) (hT : TabAt w (.slice a t.length c) t) (hS : Small t) :
    Calls Tryd.prog 51 #[.slice a t.length c, .string s] w fun e w' => ∃ v, e = .returned v ∧ w'.ownsRow w.heap.size 58 2 v (Tab.fields t s).length ((Tab.fields t s).flatMap vCells) ∧ Kept w w' := by
  obtain ⟨i0, hi, hz0, hzz1, hzz2⟩ := info_parts info_var
  have ht := hS.len
  refine (callsIn_wide (n := 3)).1 (callsIn_of_wp_marks Tryd.func51 rfl trivial (wpIn_wide.2 ?_) rfl)
  simp only [Tryd.ntmps51, List.size_toArray, List.length_cons, List.length_nil, Nat.reduceAdd, Nat.reduceSub, Array.replicate_succ, Array.replicate_zero, List.push_toArray, List.append_toArray, List.nil_append, List.cons_append]
  have HT := Lib.hid hT
  clear hT
  go_wp2_with fail
  have hk1 : Kept w (w.alloc (.cells #[.slice none 0 0] 59)) := (Kept.refl w).alloc _
  have hv1 := Boxed.new w 59 (.slice none 0 0)
  obtain ⟨W1, hW1⟩ : ∃ W1, w.alloc (.cells #[.slice none 0 0] 59) = W1 := ⟨_, rfl⟩
  have hs1 : w.heap.size + 1 ≤ W1.heap.size := by rw [← hW1]; simp
  rw [hW1] at hk1 hv1 ⊢
  have HK1 := Lib.hid hk1
  have HV0 := Lib.hid hv1
  clear hk1 hv1
  refine (line_lineC a c t s _).mono ?_
  rintro e w3 ⟨rfl, hw3⟩
  have hk3 : Kept W1 w3 := by rw [hw3]; exact ((Kept.refl W1).alloc _).alloc _
  have hs3 : W1.heap.size + 1 + 1 ≤ w3.heap.size := by rw [hw3]; simp
  have hb1 : Blk w3 W1.heap.size 22 #[.slice a t.length c] := by rw [hw3]; exact (Blk.new _ _ _).alloc _
  have hb2 : Blk w3 (W1.heap.size + 1) 9 #[.string s] := by
    rw [hw3]
    have := Blk.new (W1.alloc (.cells #[.slice a t.length c] 22)) 9 #[.string s]
    simpa using this
  have HC := Lib.hid (collect_c a c t s W1 w3 W1.heap.size (W1.heap.size + 1) (tab_kept HT.out HK1.out) ht hk3 hb1 hb2 (by omega) (Nat.le_refl _) (by omega))
  clear hk3 hb1 hb2 hw3
  go_wp2_with fail
  refine HC.out.mono ?_
  rintro e w4 ⟨v, rfl, hrow, hk4⟩
  clear HC
  have hcs : ∃ a n c, v = .slice a n c := hrow.2.elim (fun h => ⟨none, 0, 0, h.1⟩) (fun ⟨g, cap, _, h, _⟩ => ⟨_, _, _, h⟩)
  have HR4 := Lib.hid hrow
  have HK4 := Lib.hid hk4
  clear hrow hk4
  obtain ⟨va, vn, vc, hv⟩ := hcs
  subst hv
  go_wp2_with fail
  refine (back_lineC _ w4 ⟨_, _, _, rfl⟩).mono ?_
  rintro e W5 ⟨rfl, hW5⟩
  have hs5 : w4.heap.size + 1 ≤ W5.heap.size := by rw [hW5]; simp
  have h14 := HK4.out.size
  have hk5 : Kept W1 W5 := by rw [hW5]; exact HK4.out.alloc _
  have hb5 : Blk W5 w4.heap.size 119 #[.slice va vn vc] := by rw [hW5]; exact Blk.new _ _ _
  have hr5 : W5.ownsRow (w3.heap.size + 4) 120 1 (.slice va vn vc) (Tab.line t s).length ((Tab.line t s).map (elC a)) := by rw [hW5]; exact HR4.out.alloc _
  have hv5 : Blk W5 w.heap.size 59 #[.slice none 0 0] := Blk.kept (cs := #[.slice none 0 0]) HV0.out hk5
  have HK5 := Lib.hid (HK1.out.trans hk5)
  clear hW5 hk5
  have HB5 := Lib.hid hb5
  have HR5 := Lib.hid hr5
  have HV5 := Lib.hid hv5
  clear hb5 hr5 hv5
  go_wp2_with fail
  have hb5 := HB5.out
  have hr5 := HR5.out
  have hv5 := HV5.out
  refine wpIn_wide.1 (wpIn_range_back (w0 := w) (Bb := w4.heap.size) (base := w3.heap.size + 4) a c t s (· = w.heap.size) rfl HT.out ht hb5 hr5 (fun k e => by subst e; omega) rfl
    (FieI t w.heap.size (W5.heap.size + 2) W5) (fun _ _ _ => False) ?hI (fun _ _ _ _ h _ => h) ⟨⟨_, hv5, World.ownsRow_nil _ _ _ _⟩, Only.refl _ _⟩
    (fun y => { tmps := #[.slice a t.length c, .string s, undef, undef, .slice none 0 0, .pointer (some ⟨w.heap.size, 0, none⟩), undef, elC a y.1, .slice a t.length c, .string s, .func (.func 83) #[] #[.pointer (some ⟨W1.heap.size, 0, none⟩), .pointer (some ⟨W1.heap.size + 1, 0, none⟩)], .slice va vn vc, .func (.func 81) #[] #[.pointer (some ⟨w4.heap.size, 0, none⟩)], .int .i64 y.2, elC a y.1, undef, undef, undef, undef, undef, undef, undef], defers := [] }) ?assign ?body ?done ?stop)
  case hI =>
    rintro pre A B ⟨⟨v, h1, h2⟩, h4⟩ ho
    exact ⟨⟨v, Blk.only (cs := #[v]) h1 ho (by omega), owns_only h2 ho (fun g hg => by omega)⟩, h4.trans' ho fun k hk h => by omega⟩
  case assign =>
    intro l i W K hK
    gi_wp2
    exact hK
  case body =>
    rintro l pre i k b o W hl _ ⟨⟨v, hv, hrow⟩, hO⟩ hsize hpre hi' rfl hcl
    have hKp : Kept w W := HK5.out.onlyS hO (fun k e => by omega)
    have hc := Blk.cell (cs := #[v]) hv 0
    simp at hc
    obtain ⟨_, _, ⟨u, hc0, hu⟩, _⟩ := hcl.kept hKp
    have hL := fldsOf_le hS hpre
    rw [fldsOf_snoc, List.length_append] at hL
    have HL := Lib.hid hL
    have HR := Lib.hid (show W.drew.ownsRow (W5.heap.size + 2) 58 2 v (fldsOf t pre).length ((fldsOf t pre).flatMap vCells) from hrow)
    have HS := Lib.hid (show Src Tryd.prog 2 59 u (Tab.nth t i).fields.length ((Tab.nth t i).fields.flatMap vCells) W.drew from src_vars (vars_kept hu (Kept.refl W).drew))
    have HV := Lib.hid (show Blk W.drew w.heap.size 59 #[v] from hv)
    have HZ := Lib.hid (show W5.heap.size + 2 ≤ W.drew.heap.size from hsize)
    have HO0 := Lib.hid (show Only (fun k => k = w.heap.size ∨ W5.heap.size + 2 ≤ k) W W.drew from (Only.refl _ W).drew)
    have HK := Lib.hid hO
    have HBR := Lib.hid (show w.heap.size < W5.heap.size by omega)
    obtain ⟨ua, un, uc, rfl⟩ : ∃ a n c, u = .slice a n c := by obtain ⟨a, c, e, _⟩ := hu; exact ⟨_, _, _, e⟩
    obtain ⟨va', vn', vc', rfl⟩ := owns_slice hrow
    simp only [elC, evC, Option.map_some]
    clear hv hrow hKp hcl hpre hu hO hb5 hr5 hv5 hL
    gi_wp2
    refine wpIn_region_of_any (by kernel_rfl) (by kernel_rfl) (by rintro ⟨_, _, h⟩; exact h) ?_
    · change wpAny _ _ _ _ _ _ _ (World.drew _)
      refine wpAny_take (i := 1) (v := ?_) rfl (by kernel_rfl) (by kernel_rfl) (by kernel_rfl) (fun _ _ _ h => h) (Or.inl ⟨by rfl, ?_⟩) ?_
      rotate_left
      · intro w; go_simp; try with_reducible rfl
      refine wpAny_take (i := 2) (v := ?_) rfl (by kernel_rfl) (by kernel_rfl) (by kernel_rfl) (fun _ _ _ h => h) (Or.inl ⟨by rfl, ?_⟩) ?_
      rotate_left
      · intro w; go_simp; try with_reducible rfl
      refine wpAny_take (i := 3) (v := ?_) rfl (by kernel_rfl) (by kernel_rfl) (by kernel_rfl) (fun _ _ _ h => h) (Or.inl ⟨by rfl, ?_⟩) ?_
      rotate_left
      · intro w; go_simp; try with_reducible rfl
      refine wpAny_ready (rs := [0, 4]) (by kernel_rfl) (by simp) ?_
      refine AllReady.cons rfl (fun K hK => ?_) ?_
      · go_simp
        refine hK _ _ ?_; clear hK K
        refine wpAny_ready (rs := [4]) (by kernel_rfl) (by simp) ?_
        refine AllReady.cons rfl (fun K hK => ?_) ?_
        · go_simp
          refine hK _ _ ?_; clear hK K
          refine wpAny_ready (rs := [5]) (by kernel_rfl) (by simp) ?_
          refine AllReady.cons rfl (fun K hK => ?_) ?_
          · refine step_apk rfl (.tmp 15) (.tmp 19) 59 59 rfl (W5.heap.size + 2) 2 58 i0 _ 32 Tryd.underlying59 hi hz0 hzz1 hzz2 rfl rfl HR.out rfl HS.out (by unfold maxLen; have := HL.out; omega) (by have := HL.out; omega) HZ.out ?_
            intro v' w1 hown' hgrow _ _
            have hv1 : Blk w1 w.heap.size 59 #[.slice va' vn' vc'] := HV.out.grownBy hgrow (ne_row_blk HV.out (by decide) HR.out)
            have hc1 := hv1.cell 0
            have hf1 := hv1.frozen 0
            have HO := Lib.hid (app_only HO0.out HR.out hgrow HZ.out)
            have HV1 := Lib.hid hv1
            have HW := Lib.hid hown'
            obtain ⟨av', nv', cv', rfl⟩ := owns_slice hown'
            simp at hc1
            clear hv1 hown' hgrow
            refine hK _ _ ?_; clear hK K
            refine wpAny_ready (rs := [6]) (by kernel_rfl) (by simp) ?_
            refine AllReady.cons rfl (fun K hK => ?_) ?_
            · go_simp
              refine hK _ _ ?_; clear hK K
              refine wpAny_done (by kernel_rfl) ?_ _
              exact fie_end (y := (i, k)) HO.out HV1.out HW.out HK.out HBR.out (by omega)
            exact AllReady.nil
          exact AllReady.nil
        exact AllReady.nil
      refine AllReady.cons rfl (fun K hK => ?_) ?_
      · go_simp
        refine hK _ _ ?_; clear hK K
        refine wpAny_ready (rs := [0]) (by kernel_rfl) (by simp) ?_
        refine AllReady.cons rfl (fun K hK => ?_) ?_
        · go_simp
          refine hK _ _ ?_; clear hK K
          refine wpAny_ready (rs := [5]) (by kernel_rfl) (by simp) ?_
          refine AllReady.cons rfl (fun K hK => ?_) ?_
          · refine step_apk rfl (.tmp 15) (.tmp 19) 59 59 rfl (W5.heap.size + 2) 2 58 i0 _ 32 Tryd.underlying59 hi hz0 hzz1 hzz2 rfl rfl HR.out rfl HS.out (by unfold maxLen; have := HL.out; omega) (by have := HL.out; omega) HZ.out ?_
            intro v' w1 hown' hgrow _ _
            have hv1 : Blk w1 w.heap.size 59 #[.slice va' vn' vc'] := HV.out.grownBy hgrow (ne_row_blk HV.out (by decide) HR.out)
            have hc1 := hv1.cell 0
            have hf1 := hv1.frozen 0
            have HO := Lib.hid (app_only HO0.out HR.out hgrow HZ.out)
            have HV1 := Lib.hid hv1
            have HW := Lib.hid hown'
            obtain ⟨av', nv', cv', rfl⟩ := owns_slice hown'
            simp at hc1
            clear hv1 hown' hgrow
            refine hK _ _ ?_; clear hK K
            refine wpAny_ready (rs := [6]) (by kernel_rfl) (by simp) ?_
            refine AllReady.cons rfl (fun K hK => ?_) ?_
            · go_simp
              refine hK _ _ ?_; clear hK K
              refine wpAny_done (by kernel_rfl) ?_ _
              exact fie_end (y := (i, k)) HO.out HV1.out HW.out HK.out HBR.out (by omega)
            exact AllReady.nil
          exact AllReady.nil
        exact AllReady.nil
      exact AllReady.nil
  case done =>
    rintro D W hD ⟨⟨v, hv, hrow⟩, hO⟩ hd
    rw [fldsOf_all] at hrow
    have hKp : Kept w W := HK5.out.onlyS hO (fun k e => by omega)
    have HD := Lib.hid hD
    clear hD
    have hc := Blk.cell (cs := #[v]) hv 0
    simp at hc
    have HO := Lib.hid (show Only (· = D) W (W.putObj D (.deferred none)) from Only.putObj (Only.refl (· = D) W) (.inl rfl) _)
    have HR := Lib.hid hrow
    have HK := Lib.hid hKp
    obtain ⟨va', vn', vc', rfl⟩ := owns_slice hrow
    clear hrow hv hO hKp hb5 hr5 hv5
    go_wp2
    refine ⟨by simp, .inl ⟨_, _, rfl, run_takeDeferred hd, ?_⟩⟩
    exact ⟨_, results_tmp rfl _ _ _, _, rfl, owns_base (owns_only HR.out HO.out (by intro g hg e; have := HD.out; omega)) (by omega), HK.out.onlyS HO.out (by intro k e; have := HD.out; omega)⟩
  case stop =>
    rintro D c pre W _ _ h _
    exact h.elim

end Go.Proofs.YtdceafncncgfbaaDoor
