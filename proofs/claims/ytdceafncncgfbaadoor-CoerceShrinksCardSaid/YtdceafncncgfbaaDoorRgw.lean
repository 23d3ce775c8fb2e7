/- A range over a function whose iterator keeps state in cells of its own: which blocks the iterator turns, and which ones the body, is said by two sets. -/
import Derived.RangeFuncNested
import Derived.RangeFuncBound
import Derived.RangeFuncCalls
import Derived.RangeFuncLeaves
import Derived.RangeFuncBox
import Derived.Test.YtdceafncncgfbaaDoorBlk
set_option linter.unusedSimpArgs false
set_option linter.unusedVariables false
namespace Go.Proofs.YtdceafncncgfbaaDoor
open Go.RowKit

theorem Only.putObj {S : Nat → Prop} {a w : World} (h : Only S a w) {l : Nat} (hl : S l ∨ a.heap.size ≤ l) (o : Obj) : Only S a (w.putObj l o) :=
  ⟨h.os, h.output, by have := h.size; simp [World.putObj]; omega, fun k hk hs => (World.putObj_heap_other (by rintro rfl; exact hl.elim hs (fun h => by omega))).trans (h.block k hk hs)⟩

theorem Only.same {S : Nat → Prop} {w w' : World} (h : Only S w w') {k : Nat} {o : Obj} (hk : w.heap[k]? = some o) (hs : ¬ S k) : w'.heap[k]? = some o :=
  (h.block k (Array.getElem?_eq_some_iff.1 hk).1 hs).trans hk

/-- An iterator's contract: it turns the blocks of It and the m ones that it makes first; what a round of the body turns lies in U, or is the loop's record. -/
def SeqOwn {α : Type} (F : Fence) (n : Nat) (P : Program) (g : Nat) (lb : Array Value) (encs : α → Array Value) (It U : Nat → Prop) (S Sp : List α → Prop) (G : List α → Prop) (m : Nat) (W : World) : Prop :=
  ∀ (l : Nat) (J Jx : List α → World → Prop), l + 1 = W.heap.size →
    (∀ s A B, J s A → Only (fun k => It k ∨ (W.heap.size ≤ k ∧ k < W.heap.size + m)) A B → J s B) → (∀ s A B, Jx s A → Only (fun k => It k ∨ (W.heap.size ≤ k ∧ k < W.heap.size + m)) A B → Jx s B) →
    (∀ pre x W1, J pre W1 → G (pre ++ [x]) → W.heap.size + m ≤ W1.heap.size → YieldAt F (n - 1) P l (encs x) W1 fun e W' =>
      (e = .returned (.bool true) ∧ J (pre ++ [x]) W' ∧ Only (fun k => U k ∨ k = l) W1 W') ∨ (e = .returned (.bool false) ∧ Jx (pre ++ [x]) W')) →
    J [] W →
    CallsIn F n P g (#[.func (.yield l) #[] #[]] ++ lb) W fun e W' => (∃ v, e = .returned v) ∧ ((∃ xs, S xs ∧ J xs W') ∨ (∃ pre, Sp pre ∧ Jx pre W'))

/-- How a round's body may be left. -/
def ownPostW {α : Type} (U : Nat → Prop) (I : List α → World → Prop) (Ix : Code → List α → World → Prop) (xs : List α) (W : World) : Exit → Act → World → Prop
  | .normal, _, W' => Only U W W' ∧ I xs W'
  | .ret, _, W' => Only U W W' ∧ Ix .ret xs W'
  | .exit id, _, W' => Only U W W' ∧ Ix (.exit id) xs W'
  | .goto t, _, W' => Only U W W' ∧ Ix (.goto t) xs W'
  | .panic _, _, _ => False
  | .outgrown, _, _ => False

section
variable {F : Fence} {n : Nat} {P : Program}
theorem wpIn_rangeFunc_ownW {α : Type} {g : Operand} {ps : Array Tmp} {assign body : Code} {Q : Exit → Act → World → Prop} {a : Act} {w : World}
    (hro : F.round = none) (h1 : 1 ≤ n) {gf : Nat} {lb : Array Value} (hg : a.eval g = .func (.func gf) #[] lb) (hFg : F.fn gf) (eg : ∀ args w, (callFunc gf args).run P w = .ok (.enter gf args) w)
    {encs : α → Array Value} {It U : Nat → Prop} {S Sp G : List α → Prop} {m : Nat}
    (hseq : ∀ W1, Kept w W1 → W1.heap.size = w.heap.size + 2 → SeqOwn F (n - 1) P gf lb encs It U S Sp G m W1)
    (hIt : ∀ k, It k → k < w.heap.size) (hU : ∀ k, U k → k ≠ w.heap.size ∧ k ≠ w.heap.size + 1) (hps : ∀ x, (encs x).size = ps.size)
    (I : List α → World → Prop) (Ix : Code → List α → World → Prop)
    (hI : ∀ s A B, I s A → Only (fun k => It k ∨ (w.heap.size ≤ k ∧ k < w.heap.size + 2 + m)) A B → I s B)
    (hIx : ∀ c s A B, Ix c s A → Only (fun k => It k ∨ (w.heap.size ≤ k ∧ k < w.heap.size + 2 + m)) A B → Ix c s B)
    (h0 : I [] w) (a₁ : α → Act)
    (hassign : ∀ (l : Nat) (x : α) (W : World) (K : Act → World → Prop), K (a₁ x) W →
      assign.wpIn (F.inRound l) (n - 1 - 1) P (Exit.then K (fun _ _ _ => False)) { tmps := (ps.zip (encs x)).foldl (fun t (p, v) => t.setIfInBounds p v) a.tmps, defers := [] } W)
    (hbody : ∀ (l : Nat) (pre : List α) (x : α) (W : World), l = w.heap.size + 1 → (∃ r, W.heap[l]? = some (.loop r)) → I pre W → G (pre ++ [x]) → w.heap.size + 2 + m ≤ W.heap.size → body.wpIn (F.inRound l) (n - 1 - 1) P (ownPostW U I Ix (pre ++ [x]) W) (a₁ x) W)
    (hdone : ∀ (D : Nat) (xs : List α) (W : World), D = w.heap.size → S xs → I xs W → W.heap[D]? = some (.deferred (some [])) → Q .normal { a with defers := { target := .collected D, args := #[] } :: a.defers } W)
    (hstop : ∀ (D : Nat) (c : Code) (pre : List α) (W : World), D = w.heap.size → Sp pre → Ix c pre W → W.heap[D]? = some (.deferred (some [])) → c.wpIn F n P Q { a with defers := { target := .collected D, args := #[] } :: a.defers } W) :
    (Code.rangeFunc g ps assign body).wpIn F n P Q a w := by
  refine wpIn_rangeFunc fun fn hfn => ?_
  rw [hro]
  obtain ⟨rc, hrc⟩ : ∃ rc : LoopState → Option Code → Loop, ∀ st pe, rc st pe = { state := st, pending := pe, fn, tmps := a.tmps, params := ps, assign, body, defers := w.heap.size } := ⟨fun st pe => _, fun _ _ => rfl⟩
  obtain ⟨W1, hW1⟩ : ∃ W1, (w.alloc (.deferred (some []))).alloc (.loop (rc .ready none)) = W1 := ⟨_, rfl⟩
  have hk1 : Kept w W1 := by rw [← hW1]; exact ((Kept.refl w).alloc _).alloc _
  have hs1 : W1.heap.size = w.heap.size + 2 := by rw [← hW1]; simp
  have hL1 : W1.heap[w.heap.size + 1]? = some (.loop (rc .ready none)) := by
    rw [← hW1]; have := heap_alloc_new (w.alloc (.deferred (some []))) (.loop (rc .ready none)); rwa [World.size_alloc] at this
  have hD1 : W1.heap[w.heap.size]? = some (.deferred (some [])) := by
    rw [← hW1]; exact (Below.heap_alloc _ _ _ (by simp)).trans (heap_alloc_new w _)
  have notl : ¬ (It (w.heap.size + 1) ∨ (W1.heap.size ≤ w.heap.size + 1 ∧ w.heap.size + 1 < W1.heap.size + m)) := fun h => h.elim (fun h => by have := hIt _ h; omega) (fun h => by omega)
  have notd : ¬ (It w.heap.size ∨ (W1.heap.size ≤ w.heap.size ∧ w.heap.size < W1.heap.size + m)) := fun h => h.elim (fun h => by have := hIt _ h; omega) (fun h => by omega)
  refine ⟨w.heap.size + 1, [{ target := .collected w.heap.size, args := #[] }], W1, { target := .fn (.func gf) lb, args := #[.func (.yield (w.heap.size + 1)) #[] #[]] }, W1, gf,
    #[.func (.yield (w.heap.size + 1)) #[] #[]] ++ lb, W1, by rw [← hW1, hrc]; exact run_enterLoop_outer _ _ _ _ _, ?_, ?_, ?_, fun _ => h1, ?_⟩
  · simp only [resolve, hg]
    simp [go_sem]
  · intro f' hf'; simp [Target.leads] at hf'; subst hf'; exact hFg
  · simp [invoke, go_sem, eg]
  · refine (hseq W1 hk1 hs1 (w.heap.size + 1)
      (fun pre W => I pre W ∧ W.heap[w.heap.size + 1]? = some (.loop (rc .ready none)) ∧ W.heap[w.heap.size]? = some (.deferred (some [])))
      (fun pre W => ∃ c, Ix c pre W ∧ W.heap[w.heap.size + 1]? = some (.loop (rc .done (some c))) ∧ W.heap[w.heap.size]? = some (.deferred (some [])))
      (by omega) ?abJ ?abJx ?round ⟨hI _ _ _ h0 (Only.of_kept hk1), hL1, hD1⟩).mono ?behind
    case abJ =>
      rintro s A B ⟨hi, hl, hd⟩ ho
      exact ⟨hI _ _ _ hi (ho.mono fun k _ h => h.imp id fun e => ⟨by omega, by omega⟩), ho.same hl notl, ho.same hd notd⟩
    case abJx =>
      rintro s A B ⟨c, hi, hl, hd⟩ ho
      exact ⟨c, hIx _ _ _ _ hi (ho.mono fun k _ h => h.imp id fun e => ⟨by omega, by omega⟩), ho.same hl notl, ho.same hd notd⟩
    case round =>
      rintro pre x W ⟨hi, hl, hd⟩ hlen hsz
      have hlt : w.heap.size + 1 < W.heap.size := (Array.getElem?_eq_some_iff.1 hl).1
      have hy := run_yield (P := P) (args := encs x) hl (by rw [hrc]; exact hps x)
      rw [hrc] at hy
      refine ⟨fn, _, assign, body, hy, roundIn_of_wpIn hfn (hassign _ x W _ ⟨_, run_beginRound hl (by rw [hrc]), ?_⟩)⟩
      have hl2 : (W.putObj (w.heap.size + 1) (.loop { rc .ready none with state := .busy })).heap[w.heap.size + 1]? = some (.loop { rc .ready none with state := .busy }) := World.putObj_heap_same hlt
      have hd2 : (W.putObj (w.heap.size + 1) (.loop { rc .ready none with state := .busy })).heap[w.heap.size]? = some (.deferred (some [])) := (World.putObj_heap_other (by omega)).trans hd
      refine wpIn_mono (hbody _ pre x _ rfl ⟨_, hl2⟩ (hI _ _ _ hi ((Only.refl _ _).putObj (.inl (.inr ⟨by omega, by omega⟩)) _)) hlen (by simp [World.putObj]; omega)) ?_
      have ends : ∀ (jump : Option Code) (W3 : World), Only U (W.putObj (w.heap.size + 1) (.loop { rc .ready none with state := .busy })) W3 →
          (Instr.endRound (w.heap.size + 1) jump).run P W3 = .ok (.bool jump.isNone) (W3.putObj (w.heap.size + 1) (.loop (rc (if jump.isNone then .ready else .done) jump))) ∧
          (W3.putObj (w.heap.size + 1) (.loop (rc (if jump.isNone then .ready else .done) jump))).heap[w.heap.size + 1]? = some (.loop (rc (if jump.isNone then .ready else .done) jump)) ∧
          (W3.putObj (w.heap.size + 1) (.loop (rc (if jump.isNone then .ready else .done) jump))).heap[w.heap.size]? = some (.deferred (some [])) ∧
          Only (fun k => U k ∨ k = w.heap.size + 1) W (W3.putObj (w.heap.size + 1) (.loop (rc (if jump.isNone then .ready else .done) jump))) := fun jump W3 ho => by
        have hl3 := ho.same hl2 (fun h => (hU _ h).2 rfl)
        have hd3 := ho.same hd2 (fun h => (hU _ h).1 rfl)
        have hr := run_endRound (P := P) jump hl3
        refine ⟨?_, World.putObj_heap_same (Array.getElem?_eq_some_iff.1 hl3).1, (World.putObj_heap_other (by omega)).trans hd3, ?_⟩
        · rw [hrc] at hr ⊢; exact hr
        · exact ((((Only.refl _ W).putObj (.inl (.inr rfl)) _).trans (ho.mono fun k _ h => .inl h))).putObj (.inl (.inr rfl)) _
      rintro e a3 W3 hp
      cases e with
      | normal =>
        obtain ⟨hr, hl4, hd4, ho4⟩ := ends none W3 hp.1
        exact ⟨_, _, hr, .inl ⟨rfl, ⟨hI _ _ _ hp.2 ((Only.refl _ _).putObj (.inl (.inr ⟨by omega, by omega⟩)) _), hl4, hd4⟩, ho4⟩⟩
      | ret =>
        obtain ⟨hr, hl4, hd4, ho4⟩ := ends (some .ret) W3 hp.1
        exact ⟨_, _, hr, .inr ⟨rfl, .ret, hIx _ _ _ _ hp.2 ((Only.refl _ _).putObj (.inl (.inr ⟨by omega, by omega⟩)) _), hl4, hd4⟩⟩
      | exit id =>
        obtain ⟨hr, hl4, hd4, ho4⟩ := ends (some (.exit id)) W3 hp.1
        exact ⟨_, _, hr, .inr ⟨rfl, .exit id, hIx _ _ _ _ hp.2 ((Only.refl _ _).putObj (.inl (.inr ⟨by omega, by omega⟩)) _), hl4, hd4⟩⟩
      | goto t =>
        obtain ⟨hr, hl4, hd4, ho4⟩ := ends (some (.goto t)) W3 hp.1
        exact ⟨_, _, hr, .inr ⟨rfl, .goto t, hIx _ _ _ _ hp.2 ((Only.refl _ _).putObj (.inl (.inr ⟨by omega, by omega⟩)) _), hl4, hd4⟩⟩
      | panic ch => exact hp.elim
      | outgrown => exact hp.elim
    case behind =>
      rintro e W2 ⟨⟨v, rfl⟩, (⟨xs, hS, hi, hl, hd⟩ | ⟨pre, hSp, c, hi, hl, hd⟩)⟩
      · refine ⟨none, _, by have := run_endLoop (P := P) hl (by rw [hrc]; simp); rw [hrc] at this; exact this, hdone _ xs _ rfl hS (hI _ _ _ hi ((Only.refl _ _).putObj (.inl (.inr ⟨by omega, by omega⟩)) _)) ((World.putObj_heap_other (by omega)).trans hd)⟩
      · refine ⟨some c, _, by have := run_endLoop (P := P) hl (by rw [hrc]; simp); rw [hrc] at this; exact this, hstop _ c pre _ rfl hSp (hIx _ _ _ _ hi ((Only.refl _ _).putObj (.inl (.inr ⟨by omega, by omega⟩)) _)) ((World.putObj_heap_other (by omega)).trans hd)⟩
end

end Go.Proofs.YtdceafncncgfbaaDoor
