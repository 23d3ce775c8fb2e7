/- A range over a function whose element is boxed at the start of each round, where what a round of the body may turn is told by what lies there (blocks of a kind). -/
import Derived.Test.YtgdmcdjkmgpkpaaDoorRgw
set_option linter.unusedSimpArgs false
set_option linter.unusedVariables false
set_option maxRecDepth 100000
namespace Go.Proofs.YtgdmcdjkmgpkpaaDoor
open Go.RowKit

/-- An iterator's contract: it turns nothing that was there; what a round of the body turns is told by U at the round's world, or is the loop's record. -/
def SeqOwnU {α : Type} (F : Fence) (n : Nat) (P : Program) (g : Nat) (lb : Array Value) (encs : α → Array Value) (U : World → Nat → Prop) (S Sp : List α → Prop) (G : List α → Prop) (W : World) : Prop :=
  ∀ (l : Nat) (J Jx : List α → World → Prop), l + 1 = W.heap.size →
    (∀ s A B, J s A → Kept A B → J s B) → (∀ s A B, Jx s A → Kept A B → Jx s B) →
    (∀ pre x W1, J pre W1 → G (pre ++ [x]) → W.heap.size ≤ W1.heap.size → YieldAt F (n - 1) P l (encs x) W1 fun e W' =>
      (e = .returned (.bool true) ∧ J (pre ++ [x]) W' ∧ Only (fun k => U W1 k ∨ k = l) W1 W') ∨ (e = .returned (.bool false) ∧ Jx (pre ++ [x]) W')) →
    J [] W →
    CallsIn F n P g (#[.func (.yield l) #[] #[]] ++ lb) W fun e W' => (∃ v, e = .returned v) ∧ ((∃ xs, S xs ∧ J xs W') ∨ (∃ pre, Sp pre ∧ Jx pre W'))

/-- How a round's body may be left. -/
def ownPostU {α : Type} (U : World → Nat → Prop) (I : List α → World → Prop) (Ix : Code → List α → World → Prop) (xs : List α) (W : World) : Exit → Act → World → Prop
  | .normal, _, W' => Only (U W) W W' ∧ I xs W'
  | .ret, _, W' => Only (U W) W W' ∧ Ix .ret xs W'
  | .exit id, _, W' => Only (U W) W W' ∧ Ix (.exit id) xs W'
  | .goto t, _, W' => Only (U W) W W' ∧ Ix (.goto t) xs W'
  | .panic _, _, _ => False
  | .outgrown, _, _ => False

theorem Only.viaU {U : World → Nat → Prop} {W0 W Wb W3 W4 : World} {l : Nat} (hloc : ∀ A B k, A.heap[k]? = B.heap[k]? → U B k → U A k) (hk : Kept W0 W) (hb : Only (· = l) W Wb) (ho : Only (U Wb) Wb W3) (h4 : Only (· = l) W3 W4) :
    Only (fun k => U W0 k ∨ k = l) W0 W4 := by
  refine ⟨h4.os.trans (ho.os.trans (hb.os.trans hk.os)), h4.output.trans (ho.output.trans (hb.output.trans hk.output)), Nat.le_trans hk.size (Nat.le_trans hb.size (Nat.le_trans ho.size h4.size)), fun k h hs => ?_⟩
  have hkl : ¬ k = l := fun e => hs (.inr e)
  have e1 := hk.block k h
  have e2 := (hb.block k (Nat.lt_of_lt_of_le h hk.size) hkl).trans e1
  have e3 := ho.block k (Nat.lt_of_lt_of_le h (Nat.le_trans hk.size hb.size)) (fun u => hs (.inl (hloc _ _ k e2.symm u)))
  exact (h4.block k (Nat.lt_of_lt_of_le h (Nat.le_trans hk.size (Nat.le_trans hb.size ho.size))) hkl).trans (e3.trans e2)

section
variable {F : Fence} {n : Nat} {P : Program}
theorem wpIn_rangeFunc_ownU {α : Type} {g : Operand} {ps : Array Tmp} {assign body : Code} {Q : Exit → Act → World → Prop} {a : Act} {w : World}
    (hro : F.round = none) (h1 : 1 ≤ n) {gf : Nat} {lb : Array Value} (hg : a.eval g = .func (.func gf) #[] lb) (hFg : F.fn gf) (eg : ∀ args w, (callFunc gf args).run P w = .ok (.enter gf args) w)
    {encs : α → Array Value} {U : World → Nat → Prop} {S Sp G : List α → Prop}
    (hseq : ∀ W1, Kept w W1 → W1.heap.size = w.heap.size + 2 → SeqOwnU F (n - 1) P gf lb encs U S Sp G W1)
    (hloc : ∀ A B k, A.heap[k]? = B.heap[k]? → U B k → U A k) (hUl : ∀ W r, W.heap[w.heap.size + 1]? = some (.loop r) → ¬ U W (w.heap.size + 1)) (hUd : ∀ W, W.heap[w.heap.size]? = some (.deferred (some [])) → ¬ U W w.heap.size) (hps : ∀ x, (encs x).size = ps.size)
    (I : List α → World → Prop) (Ix : Code → List α → World → Prop)
    (hI : ∀ s A B, I s A → Only (fun k => w.heap.size ≤ k ∧ k < w.heap.size + 2) A B → I s B)
    (hIx : ∀ c s A B, Ix c s A → Only (fun k => w.heap.size ≤ k ∧ k < w.heap.size + 2) A B → Ix c s B)
    (h0 : I [] w) (a₁ : α → World → Act) (wa : α → World → World) (hwa : ∀ x W, Kept W (wa x W))
    (hassign : ∀ (l : Nat) (x : α) (W : World) (K : Act → World → Prop), K (a₁ x W) (wa x W) →
      assign.wpIn (F.inRound l) (n - 1 - 1) P (Exit.then K (fun _ _ _ => False)) { tmps := (ps.zip (encs x)).foldl (fun t (p, v) => t.setIfInBounds p v) a.tmps, defers := [] } W)
    (hbody : ∀ (l : Nat) (pre : List α) (x : α) (W0 W : World), l = w.heap.size + 1 → l < W0.heap.size → Only (· = l) (wa x W0) W → (∃ r, W.heap[l]? = some (.loop r)) → I pre W → G (pre ++ [x]) → w.heap.size + 2 ≤ W.heap.size → body.wpIn (F.inRound l) (n - 1 - 1) P (ownPostU U I Ix (pre ++ [x]) W) (a₁ x W0) W)
    (hdone : ∀ (D : Nat) (xs : List α) (W : World), D = w.heap.size → S xs → I xs W → W.heap[D]? = some (.deferred (some [])) → Q .normal { a with defers := { target := .collected D, args := #[] } :: a.defers } W)
    (hstop : ∀ (D : Nat) (c : Code) (pre : List α) (W : World), D = w.heap.size → Sp pre → Ix c pre W → W.heap[D]? = some (.deferred (some [])) → c.wpIn F n P Q { a with defers := { target := .collected D, args := #[] } :: a.defers } W) :
    (Code.rangeFunc g ps assign body).wpIn F n P Q a w := by
  refine wpIn_rangeFunc fun fn hfn => ?_
  rw [hro]
  obtain ⟨rc, hrc⟩ : ∃ rc : LoopState → Option Code → Loop, ∀ st pe, rc st pe = { state := st, pending := pe, fn, tmps := a.tmps, params := ps, assign, body, defers := w.heap.size } := ⟨fun st pe => _, fun _ _ => rfl⟩
  obtain ⟨W1, hW1⟩ : ∃ W1, (w.alloc (.deferred (some []))).alloc (.loop (rc .ready none)) = W1 := ⟨_, rfl⟩
  have hk1 : Kept w W1 := by rw [← hW1]; exact ((Kept.refl w).alloc _).alloc _
  have hs1 : W1.heap.size = w.heap.size + 2 := by rw [← hW1]; simp
  have hL1 : W1.heap[w.heap.size + 1]? = some (.loop (rc .ready none)) := by
    rw [← hW1]; have := heap_alloc_new (w.alloc (.deferred (some []))) (.loop (rc .ready none)); rwa [World.size_alloc] at this
  have hD1 : W1.heap[w.heap.size]? = some (.deferred (some [])) := by
    rw [← hW1]; exact (Below.heap_alloc _ _ _ (by simp)).trans (heap_alloc_new w _)
  refine ⟨w.heap.size + 1, [{ target := .collected w.heap.size, args := #[] }], W1, { target := .fn (.func gf) lb, args := #[.func (.yield (w.heap.size + 1)) #[] #[]] }, W1, gf,
    #[.func (.yield (w.heap.size + 1)) #[] #[]] ++ lb, W1, by rw [← hW1, hrc]; exact run_enterLoop_outer _ _ _ _ _, ?_, ?_, ?_, fun _ => h1, ?_⟩
  · simp only [resolve, hg]
    simp [go_sem]
  · intro f' hf'; simp [Target.leads] at hf'; subst hf'; exact hFg
  · simp [invoke, go_sem, eg]
  · refine (hseq W1 hk1 hs1 (w.heap.size + 1)
      (fun pre W => I pre W ∧ W.heap[w.heap.size + 1]? = some (.loop (rc .ready none)) ∧ W.heap[w.heap.size]? = some (.deferred (some [])))
      (fun pre W => ∃ c, Ix c pre W ∧ W.heap[w.heap.size + 1]? = some (.loop (rc .done (some c))) ∧ W.heap[w.heap.size]? = some (.deferred (some [])))
      (by omega) ?abJ ?abJx ?round ⟨hI _ _ _ h0 (Only.of_kept hk1), hL1, hD1⟩).mono ?behind
    case abJ =>
      rintro s A B ⟨hi, hl, hd⟩ ho
      exact ⟨hI _ _ _ hi (Only.of_kept ho), (ho.block _ (Array.getElem?_eq_some_iff.1 hl).1).trans hl, (ho.block _ (Array.getElem?_eq_some_iff.1 hd).1).trans hd⟩
    case abJx =>
      rintro s A B ⟨c, hi, hl, hd⟩ ho
      exact ⟨c, hIx _ _ _ _ hi (Only.of_kept ho), (ho.block _ (Array.getElem?_eq_some_iff.1 hl).1).trans hl, (ho.block _ (Array.getElem?_eq_some_iff.1 hd).1).trans hd⟩
    case round =>
      rintro pre x W0 ⟨hi0, hl0, hd0⟩ hlen hsz
      have hlt0 : w.heap.size + 1 < W0.heap.size := (Array.getElem?_eq_some_iff.1 hl0).1
      have hy := run_yield (P := P) (args := encs x) hl0 (by rw [hrc]; exact hps x)
      rw [hrc] at hy
      obtain ⟨W, hW⟩ : ∃ W, W = wa x W0 := ⟨_, rfl⟩
      have hkW : Kept W0 W := by rw [hW]; exact hwa x W0
      have hl : W.heap[w.heap.size + 1]? = some (.loop (rc .ready none)) := (hkW.block _ hlt0).trans hl0
      have hd : W.heap[w.heap.size]? = some (.deferred (some [])) := (hkW.block _ (by omega)).trans hd0
      have hi : I pre W := hI _ _ _ hi0 (Only.of_kept hkW)
      have hlt : w.heap.size + 1 < W.heap.size := (Array.getElem?_eq_some_iff.1 hl).1
      have hszW := hkW.size
      refine ⟨fn, _, assign, body, hy, roundIn_of_wpIn hfn (hassign _ x W0 _ ⟨_, by rw [← hW]; exact run_beginRound hl (by rw [hrc]), ?_⟩)⟩
      have hl2 : (W.putObj (w.heap.size + 1) (.loop { rc .ready none with state := .busy })).heap[w.heap.size + 1]? = some (.loop { rc .ready none with state := .busy }) := World.putObj_heap_same hlt
      have hd2 : (W.putObj (w.heap.size + 1) (.loop { rc .ready none with state := .busy })).heap[w.heap.size]? = some (.deferred (some [])) := (World.putObj_heap_other (by omega)).trans hd
      have hob : Only (· = w.heap.size + 1) (wa x W0) (W.putObj (w.heap.size + 1) (.loop { rc .ready none with state := .busy })) := by rw [← hW]; exact (Only.refl (· = w.heap.size + 1) W).putObj (.inl rfl) _
      refine wpIn_mono (hbody _ pre x W0 _ rfl hlt0 hob ⟨_, hl2⟩ (hI _ _ _ hi ((Only.refl _ _).putObj (.inl ⟨by omega, by omega⟩) _)) hlen (by simp [World.putObj]; omega)) ?_
      have ends : ∀ (jump : Option Code) (W3 : World), Only (U (W.putObj (w.heap.size + 1) (.loop { rc .ready none with state := .busy }))) (W.putObj (w.heap.size + 1) (.loop { rc .ready none with state := .busy })) W3 →
          (Instr.endRound (w.heap.size + 1) jump).run P W3 = .ok (.bool jump.isNone) (W3.putObj (w.heap.size + 1) (.loop (rc (if jump.isNone then .ready else .done) jump))) ∧
          (W3.putObj (w.heap.size + 1) (.loop (rc (if jump.isNone then .ready else .done) jump))).heap[w.heap.size + 1]? = some (.loop (rc (if jump.isNone then .ready else .done) jump)) ∧
          (W3.putObj (w.heap.size + 1) (.loop (rc (if jump.isNone then .ready else .done) jump))).heap[w.heap.size]? = some (.deferred (some [])) ∧
          Only (fun k => U W0 k ∨ k = w.heap.size + 1) W0 (W3.putObj (w.heap.size + 1) (.loop (rc (if jump.isNone then .ready else .done) jump))) := fun jump W3 ho => by
        have hl3 := ho.same hl2 (hUl _ _ hl2)
        have hd3 := ho.same hd2 (hUd _ hd2)
        have hr := run_endRound (P := P) jump hl3
        refine ⟨?_, World.putObj_heap_same (Array.getElem?_eq_some_iff.1 hl3).1, (World.putObj_heap_other (by omega)).trans hd3, ?_⟩
        · rw [hrc] at hr ⊢; exact hr
        · exact Only.viaU hloc hkW ((Only.refl (· = w.heap.size + 1) W).putObj (.inl rfl) _) ho ((Only.refl (· = w.heap.size + 1) W3).putObj (.inl rfl) _)
      rintro e a3 W3 hp
      cases e with
      | normal =>
        obtain ⟨hr, hl4, hd4, ho4⟩ := ends none W3 hp.1
        exact ⟨_, _, hr, .inl ⟨rfl, ⟨hI _ _ _ hp.2 ((Only.refl _ _).putObj (.inl ⟨by omega, by omega⟩) _), hl4, hd4⟩, ho4⟩⟩
      | ret =>
        obtain ⟨hr, hl4, hd4, ho4⟩ := ends (some .ret) W3 hp.1
        exact ⟨_, _, hr, .inr ⟨rfl, .ret, hIx _ _ _ _ hp.2 ((Only.refl _ _).putObj (.inl ⟨by omega, by omega⟩) _), hl4, hd4⟩⟩
      | exit id =>
        obtain ⟨hr, hl4, hd4, ho4⟩ := ends (some (.exit id)) W3 hp.1
        exact ⟨_, _, hr, .inr ⟨rfl, .exit id, hIx _ _ _ _ hp.2 ((Only.refl _ _).putObj (.inl ⟨by omega, by omega⟩) _), hl4, hd4⟩⟩
      | goto t =>
        obtain ⟨hr, hl4, hd4, ho4⟩ := ends (some (.goto t)) W3 hp.1
        exact ⟨_, _, hr, .inr ⟨rfl, .goto t, hIx _ _ _ _ hp.2 ((Only.refl _ _).putObj (.inl ⟨by omega, by omega⟩) _), hl4, hd4⟩⟩
      | panic ch => exact hp.elim
      | outgrown => exact hp.elim
    case behind =>
      rintro e W2 ⟨⟨v, rfl⟩, (⟨xs, hS, hi, hl, hd⟩ | ⟨pre, hSp, c, hi, hl, hd⟩)⟩
      · refine ⟨none, _, by have := run_endLoop (P := P) hl (by rw [hrc]; simp); rw [hrc] at this; exact this, hdone _ xs _ rfl hS (hI _ _ _ hi ((Only.refl _ _).putObj (.inl ⟨by omega, by omega⟩) _)) ((World.putObj_heap_other (by omega)).trans hd)⟩
      · refine ⟨some c, _, by have := run_endLoop (P := P) hl (by rw [hrc]; simp); rw [hrc] at this; exact this, hstop _ c pre _ rfl hSp (hIx _ _ _ _ hi ((Only.refl _ _).putObj (.inl ⟨by omega, by omega⟩) _)) ((World.putObj_heap_other (by omega)).trans hd)⟩
end

end Go.Proofs.YtgdmcdjkmgpkpaaDoor
