/- Texts. -/
import Derived.RangeFuncNested
import Derived.RangeFuncBound
import Derived.RangeFuncCalls
import Derived.RangeFuncLeaves
import Derived.RangeFuncBox
import Derived.Test.YtegcgflhgfmkpaaGreatDoorUw1
set_option linter.unusedSimpArgs false
set_option linter.unusedVariables false
set_option maxRecDepth 100000
namespace Go.Proofs.YtegcgflhgfmkpaaGreatDoor
open Go.RowKit
theorem Only.putObj {S : Nat -> Prop} {a w : World} (h : Only S a w) {l : Nat} (hl : S l ∨ a.heap.size <= l) (o : Obj) : Only S a (w.putObj l o) :=
 ⟨h.os, h.output, by have := h.size; simp [World.putObj]; omega, fun k hk hs => (World.putObj_heap_other (by rintro rfl; exact hl.elim hs (fun h => by omega))).trans (h.block k hk hs)⟩
theorem Only.same {S : Nat -> Prop} {w w' : World} (h : Only S w w') {k : Nat} {o : Obj} (hk : w.heap[k]? = some o) (hs : ¬ S k) : w'.heap[k]? = some o :=
 (h.block k (Array.getElem?_eq_some_iff.1 hk).1 hs).trans hk
section
variable {F : Fence} {n : Nat} {P : Program}
end
def SeqOwnU {α : Type} (F : Fence) (n : Nat) (P : Program) (g : Nat) (lb : Array Value) (encs : α -> Array Value) (U : World -> Nat -> Prop) (S Sp : List α -> Prop) (G : List α -> Prop) (W : World) : Prop :=
 ∀ (l : Nat) (J Jx : List α -> World -> Prop), l + 1 = W.heap.size ->
  (∀ s A B, J s A -> Kept A B -> J s B) -> (∀ s A B, Jx s A -> Kept A B -> Jx s B) ->
  (∀ pre x W1, J pre W1 -> G (pre ++ [x]) -> W.heap.size <= W1.heap.size -> YieldAt F (n - 1) P l (encs x) W1 fun e W' =>
   (e = .returned (.bool true) /\ J (pre ++ [x]) W' /\ Only (fun k => U W1 k ∨ k = l) W1 W') ∨ (e = .returned (.bool false) /\ Jx (pre ++ [x]) W')) ->
  J [] W ->
  CallsIn F n P g (#[.func (.yield l) #[] #[]] ++ lb) W fun e W' => (∃ v, e = .returned v) /\ ((∃ xs, S xs /\ J xs W') ∨ (∃ pre, Sp pre /\ Jx pre W'))
def ownPostU {α : Type} (U : World -> Nat -> Prop) (I : List α -> World -> Prop) (Ix : Code -> List α -> World -> Prop) (xs : List α) (W : World) : Exit -> Act -> World -> Prop
 | .normal, _, W' => Only (U W) W W' /\ I xs W'
 | .ret, _, W' => Only (U W) W W' /\ Ix .ret xs W'
 | .exit id, _, W' => Only (U W) W W' /\ Ix (.exit id) xs W'
 | .goto t, _, W' => Only (U W) W W' /\ Ix (.goto t) xs W'
 | .panic _, _, _ => False
 | .outgrown, _, _ => False
theorem Only.viaU {U : World -> Nat -> Prop} {W0 W Wb W3 W4 : World} {l : Nat} (hloc : ∀ A B k, A.heap[k]? = B.heap[k]? -> U B k -> U A k) (hk : Kept W0 W) (hb : Only (· = l) W Wb) (ho : Only (U Wb) Wb W3) (h4 : Only (· = l) W3 W4) :
  Only (fun k => U W0 k ∨ k = l) W0 W4 := by
 refine ⟨h4.os.trans (ho.os.trans (hb.os.trans hk.os)), h4.output.trans (ho.output.trans (hb.output.trans hk.output)), Nat.le_trans hk.size (Nat.le_trans hb.size (Nat.le_trans ho.size h4.size)), fun k h hs => ?_⟩;have hkl : ¬ k = l := fun e => hs (.inr e);have e1 := hk.block k h;have e2 := (hb.block k (Nat.lt_of_lt_of_le h hk.size) hkl).trans e1;have e3 := ho.block k (Nat.lt_of_lt_of_le h (Nat.le_trans hk.size hb.size)) (fun u => hs (.inl (hloc _ _ k e2.symm u)));exact (h4.block k (Nat.lt_of_lt_of_le h (Nat.le_trans hk.size (Nat.le_trans hb.size ho.size))) hkl).trans (e3.trans e2)
section
variable {F : Fence} {n : Nat} {P : Program}
theorem wpIn_rangeFunc_ownU {α : Type} {g : Operand} {ps : Array Tmp} {assign body : Code} {Q : Exit -> Act -> World -> Prop} {a : Act} {w : World}
  (hro : F.round = none) (h1 : 1 <= n) {gf : Nat} {lb : Array Value} (hg : a.eval g = .func (.func gf) #[] lb) (hFg : F.fn gf) (eg : ∀ args w, (callFunc gf args).run P w = .ok (.enter gf args) w)
  {encs : α -> Array Value} {U : World -> Nat -> Prop} {S Sp G : List α -> Prop}
  (hseq : ∀ W1, Kept w W1 -> W1.heap.size = w.heap.size + 2 -> SeqOwnU F (n - 1) P gf lb encs U S Sp G W1)
  (hloc : ∀ A B k, A.heap[k]? = B.heap[k]? -> U B k -> U A k) (hUl : ∀ W r, W.heap[w.heap.size + 1]? = some (.loop r) -> ¬ U W (w.heap.size + 1)) (hUd : ∀ W, W.heap[w.heap.size]? = some (.deferred (some [])) -> ¬ U W w.heap.size) (hps : ∀ x, (encs x).size = ps.size)
  (I : List α -> World -> Prop) (Ix : Code -> List α -> World -> Prop)
  (hI : ∀ s A B, I s A -> Only (fun k => w.heap.size <= k /\ k < w.heap.size + 2) A B -> I s B)
  (hIx : ∀ c s A B, Ix c s A -> Only (fun k => w.heap.size <= k /\ k < w.heap.size + 2) A B -> Ix c s B)
  (h0 : I [] w) (a₁ : α -> World -> Act) (wa : α -> World -> World) (hwa : ∀ x W, Kept W (wa x W))
  (hassign : ∀ (l : Nat) (x : α) (W : World) (K : Act -> World -> Prop), K (a₁ x W) (wa x W) ->
   assign.wpIn (F.inRound l) (n - 1 - 1) P (Exit.then K (fun _ _ _ => False)) { tmps := (ps.zip (encs x)).foldl (fun t (p, v) => t.setIfInBounds p v) a.tmps, defers := [] } W)
  (hbody : ∀ (l : Nat) (pre : List α) (x : α) (W0 W : World), l = w.heap.size + 1 -> l < W0.heap.size -> Only (· = l) (wa x W0) W -> (∃ r, W.heap[l]? = some (.loop r)) -> I pre W -> G (pre ++ [x]) -> w.heap.size + 2 <= W.heap.size -> body.wpIn (F.inRound l) (n - 1 - 1) P (ownPostU U I Ix (pre ++ [x]) W) (a₁ x W0) W)
  (hdone : ∀ (D : Nat) (xs : List α) (W : World), D = w.heap.size -> S xs -> I xs W -> W.heap[D]? = some (.deferred (some [])) -> Q .normal { a with defers := { target := .collected D, args := #[] } :: a.defers } W)
  (hstop : ∀ (D : Nat) (c : Code) (pre : List α) (W : World), D = w.heap.size -> Sp pre -> Ix c pre W -> W.heap[D]? = some (.deferred (some [])) -> c.wpIn F n P Q { a with defers := { target := .collected D, args := #[] } :: a.defers } W) :
  (Code.rangeFunc g ps assign body).wpIn F n P Q a w := by
 refine wpIn_rangeFunc fun fn hfn => ?_;rw [hro];obtain ⟨rc, hrc⟩ : ∃ rc : LoopState -> Option Code -> Loop, ∀ st pe, rc st pe = { state := st, pending := pe, fn, tmps := a.tmps, params := ps, assign, body, defers := w.heap.size } := ⟨fun st pe => _, fun _ _ => rfl⟩;obtain ⟨W1, hW1⟩ : ∃ W1, (w.alloc (.deferred (some []))).alloc (.loop (rc .ready none)) = W1 := ⟨_, rfl⟩;have hk1 : Kept w W1 := by rw [<- hW1]; exact ((Kept.refl w).alloc _).alloc _
 have hs1 : W1.heap.size = w.heap.size + 2 := by rw [<- hW1]; simp
 have hL1 : W1.heap[w.heap.size + 1]? = some (.loop (rc .ready none)) := by
  rw [<- hW1]; have := heap_alloc_new (w.alloc (.deferred (some []))) (.loop (rc .ready none)); rwa [World.size_alloc] at this
 have hD1 : W1.heap[w.heap.size]? = some (.deferred (some [])) := by
  rw [<- hW1]; exact (Below.heap_alloc _ _ _ (by simp)).trans (heap_alloc_new w _)
 refine ⟨w.heap.size + 1, [{ target := .collected w.heap.size, args := #[] }], W1, { target := .fn (.func gf) lb, args := #[.func (.yield (w.heap.size + 1)) #[] #[]] }, W1, gf,
  #[.func (.yield (w.heap.size + 1)) #[] #[]] ++ lb, W1, by rw [<- hW1, hrc]; exact run_enterLoop_outer _ _ _ _ _, ?_, ?_, ?_, fun _ => h1, ?_⟩
 ·simp only [resolve, hg];simp [go_sem]
 ·intro f' hf'; simp [Target.leads] at hf'; subst hf'; exact hFg
 ·simp [invoke, go_sem, eg]
 ·refine (hseq W1 hk1 hs1 (w.heap.size + 1)
   (fun pre W => I pre W /\ W.heap[w.heap.size + 1]? = some (.loop (rc .ready none)) /\ W.heap[w.heap.size]? = some (.deferred (some [])))
   (fun pre W => ∃ c, Ix c pre W /\ W.heap[w.heap.size + 1]? = some (.loop (rc .done (some c))) /\ W.heap[w.heap.size]? = some (.deferred (some [])))
   (by omega) ?abJ ?abJx ?round ⟨hI _ _ _ h0 (Only.of_kept hk1), hL1, hD1⟩).mono ?behind
  case abJ =>
   rintro s A B ⟨hi, hl, hd⟩ ho;exact ⟨hI _ _ _ hi (Only.of_kept ho), (ho.block _ (Array.getElem?_eq_some_iff.1 hl).1).trans hl, (ho.block _ (Array.getElem?_eq_some_iff.1 hd).1).trans hd⟩
  case abJx =>
   rintro s A B ⟨c, hi, hl, hd⟩ ho;exact ⟨c, hIx _ _ _ _ hi (Only.of_kept ho), (ho.block _ (Array.getElem?_eq_some_iff.1 hl).1).trans hl, (ho.block _ (Array.getElem?_eq_some_iff.1 hd).1).trans hd⟩
  case round =>
   rintro pre x W0 ⟨hi0, hl0, hd0⟩ hlen hsz;have hlt0 : w.heap.size + 1 < W0.heap.size := (Array.getElem?_eq_some_iff.1 hl0).1;have hy := run_yield (P := P) (args := encs x) hl0 (by rw [hrc]; exact hps x);rw [hrc] at hy;obtain ⟨W, hW⟩ : ∃ W, W = wa x W0 := ⟨_, rfl⟩;have hkW : Kept W0 W := by rw [hW]; exact hwa x W0
   have hl : W.heap[w.heap.size + 1]? = some (.loop (rc .ready none)) := (hkW.block _ hlt0).trans hl0;have hd : W.heap[w.heap.size]? = some (.deferred (some [])) := (hkW.block _ (by omega)).trans hd0;have hi : I pre W := hI _ _ _ hi0 (Only.of_kept hkW);have hlt : w.heap.size + 1 < W.heap.size := (Array.getElem?_eq_some_iff.1 hl).1;have hszW := hkW.size;refine ⟨fn, _, assign, body, hy, roundIn_of_wpIn hfn (hassign _ x W0 _ ⟨_, by rw [<- hW]; exact run_beginRound hl (by rw [hrc]), ?_⟩)⟩;have hl2 : (W.putObj (w.heap.size + 1) (.loop { rc .ready none with state := .busy })).heap[w.heap.size + 1]? = some (.loop { rc .ready none with state := .busy }) := World.putObj_heap_same hlt;have hd2 : (W.putObj (w.heap.size + 1) (.loop { rc .ready none with state := .busy })).heap[w.heap.size]? = some (.deferred (some [])) := (World.putObj_heap_other (by omega)).trans hd;have hob : Only (· = w.heap.size + 1) (wa x W0) (W.putObj (w.heap.size + 1) (.loop { rc .ready none with state := .busy })) := by rw [<- hW]; exact (Only.refl (· = w.heap.size + 1) W).putObj (.inl rfl) _
   refine wpIn_mono (hbody _ pre x W0 _ rfl hlt0 hob ⟨_, hl2⟩ (hI _ _ _ hi ((Only.refl _ _).putObj (.inl ⟨by omega, by omega⟩) _)) hlen (by simp [World.putObj]; omega)) ?_;have ends : ∀ (jump : Option Code) (W3 : World), Only (U (W.putObj (w.heap.size + 1) (.loop { rc .ready none with state := .busy }))) (W.putObj (w.heap.size + 1) (.loop { rc .ready none with state := .busy })) W3 ->
     (Instr.endRound (w.heap.size + 1) jump).run P W3 = .ok (.bool jump.isNone) (W3.putObj (w.heap.size + 1) (.loop (rc (if jump.isNone then .ready else .done) jump))) /\
     (W3.putObj (w.heap.size + 1) (.loop (rc (if jump.isNone then .ready else .done) jump))).heap[w.heap.size + 1]? = some (.loop (rc (if jump.isNone then .ready else .done) jump)) /\
     (W3.putObj (w.heap.size + 1) (.loop (rc (if jump.isNone then .ready else .done) jump))).heap[w.heap.size]? = some (.deferred (some [])) /\
     Only (fun k => U W0 k ∨ k = w.heap.size + 1) W0 (W3.putObj (w.heap.size + 1) (.loop (rc (if jump.isNone then .ready else .done) jump))) := fun jump W3 ho => by
    have hl3 := ho.same hl2 (hUl _ _ hl2);have hd3 := ho.same hd2 (hUd _ hd2);have hr := run_endRound (P := P) jump hl3;refine ⟨?_, World.putObj_heap_same (Array.getElem?_eq_some_iff.1 hl3).1, (World.putObj_heap_other (by omega)).trans hd3, ?_⟩
    ·rw [hrc] at hr ⊢; exact hr
    ·exact Only.viaU hloc hkW ((Only.refl (· = w.heap.size + 1) W).putObj (.inl rfl) _) ho ((Only.refl (· = w.heap.size + 1) W3).putObj (.inl rfl) _)
   rintro e a3 W3 hp
   cases e with
   | normal =>
    obtain ⟨hr, hl4, hd4, ho4⟩ := ends none W3 hp.1;exact ⟨_, _, hr, .inl ⟨rfl, ⟨hI _ _ _ hp.2 ((Only.refl _ _).putObj (.inl ⟨by omega, by omega⟩) _), hl4, hd4⟩, ho4⟩⟩
   | ret =>
    obtain ⟨hr, hl4, hd4, ho4⟩ := ends (some .ret) W3 hp.1;exact ⟨_, _, hr, .inr ⟨rfl, .ret, hIx _ _ _ _ hp.2 ((Only.refl _ _).putObj (.inl ⟨by omega, by omega⟩) _), hl4, hd4⟩⟩
   | exit id =>
    obtain ⟨hr, hl4, hd4, ho4⟩ := ends (some (.exit id)) W3 hp.1;exact ⟨_, _, hr, .inr ⟨rfl, .exit id, hIx _ _ _ _ hp.2 ((Only.refl _ _).putObj (.inl ⟨by omega, by omega⟩) _), hl4, hd4⟩⟩
   | goto t =>
    obtain ⟨hr, hl4, hd4, ho4⟩ := ends (some (.goto t)) W3 hp.1;exact ⟨_, _, hr, .inr ⟨rfl, .goto t, hIx _ _ _ _ hp.2 ((Only.refl _ _).putObj (.inl ⟨by omega, by omega⟩) _), hl4, hd4⟩⟩
   | panic ch => exact hp.elim
   | outgrown => exact hp.elim
  case behind =>
   rintro e W2 ⟨⟨v, rfl⟩, (⟨xs, hS, hi, hl, hd⟩ | ⟨pre, hSp, c, hi, hl, hd⟩)⟩
   ·refine ⟨none, _, by have := run_endLoop (P := P) hl (by rw [hrc]; simp); rw [hrc] at this; exact this, hdone _ xs _ rfl hS (hI _ _ _ hi ((Only.refl _ _).putObj (.inl ⟨by omega, by omega⟩) _)) ((World.putObj_heap_other (by omega)).trans hd)⟩
   ·refine ⟨some c, _, by have := run_endLoop (P := P) hl (by rw [hrc]; simp); rw [hrc] at this; exact this, hstop _ c pre _ rfl hSp (hIx _ _ _ _ hi ((Only.refl _ _).putObj (.inl ⟨by omega, by omega⟩) _)) ((World.putObj_heap_other (by omega)).trans hd)⟩
end
def SeqOwnO {α : Type} (F : Fence) (n : Nat) (P : Program) (g : Nat) (lb : Array Value) (encs : α -> Array Value) (S Sp : List α -> Prop) (G : List α -> World -> (Nat -> Prop) -> Prop) (b0 : Nat) (W : World) : Prop :=
 ∀ (l : Nat) (J : List α -> World -> (Nat -> Prop) -> Prop) (Jx : List α -> World -> Prop) (O0 : Nat -> Prop), l + 1 = W.heap.size -> (∀ k, O0 k -> b0 <= k /\ k < l) ->
  (∀ s A B O, J s A O -> Only (fun k => W.heap.size <= k /\ ¬ O k) A B -> J s B O) -> (∀ s A B, Jx s A -> Kept A B -> Jx s B) ->
  (∀ pre x W1 O, J pre W1 O -> G (pre ++ [x]) W1 O -> W.heap.size <= W1.heap.size -> (∀ k, O k -> k < W1.heap.size /\ k ≠ l) -> YieldAt F (n - 1) P l (encs x) W1 fun e W' =>
   (e = .returned (.bool true) /\ ∃ O', J (pre ++ [x]) W' O' /\ Only (fun k => O k ∨ k = l) W1 W' /\ (∀ k, O' k -> O k ∨ (W1.heap.size <= k /\ k < W'.heap.size))) ∨ (e = .returned (.bool false) /\ Jx (pre ++ [x]) W')) ->
  J [] W O0 ->
  CallsIn F n P g (#[.func (.yield l) #[] #[]] ++ lb) W fun e W' => (∃ v, e = .returned v) /\ ((∃ xs O, S xs /\ J xs W' O) ∨ (∃ pre, Sp pre /\ Jx pre W'))
def ownPostO {α : Type} (O : Nat -> Prop) (n₀ : Nat) (I : List α -> World -> (Nat -> Prop) -> Prop) (Ix : Code -> List α -> World -> Prop) (xs : List α) (W : World) : Exit -> Act -> World -> Prop
 | .normal, _, W' => Only (fun k => O k ∨ n₀ <= k) W W' /\ ∃ O', (∀ k, O' k -> O k ∨ (n₀ <= k /\ k < W'.heap.size)) /\ I xs W' O'
 | .ret, _, W' => Only (fun k => O k ∨ n₀ <= k) W W' /\ Ix .ret xs W'
 | .exit id, _, W' => Only (fun k => O k ∨ n₀ <= k) W W' /\ Ix (.exit id) xs W'
 | .goto t, _, W' => Only (fun k => O k ∨ n₀ <= k) W W' /\ Ix (.goto t) xs W'
 | .panic _, _, _ => False
 | .outgrown, _, _ => False
theorem Only.viaO {O : Nat -> Prop} {W0 W Wb W3 W4 : World} {l : Nat} (hk : Kept W0 W) (hb : Only (· = l) W Wb) (ho : Only (fun k => O k ∨ W0.heap.size <= k) Wb W3) (h4 : Only (· = l) W3 W4) :
  Only (fun k => O k ∨ k = l) W0 W4 := by
 refine ⟨h4.os.trans (ho.os.trans (hb.os.trans hk.os)), h4.output.trans (ho.output.trans (hb.output.trans hk.output)), Nat.le_trans hk.size (Nat.le_trans hb.size (Nat.le_trans ho.size h4.size)), fun k h hs => ?_⟩;have hkl : ¬ k = l := fun e => hs (.inr e);have e1 := hk.block k h;have e2 := (hb.block k (Nat.lt_of_lt_of_le h hk.size) hkl).trans e1;have e3 := ho.block k (Nat.lt_of_lt_of_le h (Nat.le_trans hk.size hb.size)) (fun u => u.elim (fun u => hs (.inl u)) (fun u => by omega));exact (h4.block k (Nat.lt_of_lt_of_le h (Nat.le_trans hk.size (Nat.le_trans hb.size ho.size))) hkl).trans (e3.trans e2)
section
variable {F : Fence} {n : Nat} {P : Program}
theorem wpIn_rangeFunc_ownO {α : Type} {g : Operand} {ps : Array Tmp} {assign body : Code} {Q : Exit -> Act -> World -> Prop} {a : Act} {w : World}
  (hro : F.round = none) (h1 : 1 <= n) {gf : Nat} {lb : Array Value} (hg : a.eval g = .func (.func gf) #[] lb) (hFg : F.fn gf) (eg : ∀ args w, (callFunc gf args).run P w = .ok (.enter gf args) w)
  {encs : α -> Array Value} {S Sp : List α -> Prop} {G : List α -> World -> (Nat -> Prop) -> Prop} {b0 : Nat} (O0 : Nat -> Prop) (hO0 : ∀ k, O0 k -> b0 <= k /\ k < w.heap.size)
  (hseq : ∀ W1, Kept w W1 -> W1.heap.size = w.heap.size + 2 -> SeqOwnO F (n - 1) P gf lb encs S Sp G b0 W1)
  (hG : ∀ s A B O, G s A O -> Only (fun k => w.heap.size <= k /\ k < w.heap.size + 2) A B -> G s B O) (hps : ∀ x, (encs x).size = ps.size)
  (I : List α -> World -> (Nat -> Prop) -> Prop) (Ix : Code -> List α -> World -> Prop)
  (hI : ∀ s A B O, I s A O -> Only (fun k => w.heap.size <= k /\ ¬ O k) A B -> I s B O)
  (hIx : ∀ c s A B, Ix c s A -> Only (fun k => w.heap.size <= k /\ k < w.heap.size + 2) A B -> Ix c s B)
  (h0 : I [] w O0) (a₁ : α -> World -> Act) (wa : α -> World -> World) (hwa : ∀ x W, Kept W (wa x W))
  (hassign : ∀ (l : Nat) (x : α) (W : World) (K : Act -> World -> Prop), K (a₁ x W) (wa x W) ->
   assign.wpIn (F.inRound l) (n - 1 - 1) P (Exit.then K (fun _ _ _ => False)) { tmps := (ps.zip (encs x)).foldl (fun t (p, v) => t.setIfInBounds p v) a.tmps, defers := [] } W)
  (hbody : ∀ (l : Nat) (pre : List α) (x : α) (W0 W : World) (O : Nat -> Prop), l = w.heap.size + 1 -> l < W0.heap.size -> Only (· = l) (wa x W0) W -> (∀ k, O k -> k < W0.heap.size /\ ¬ (w.heap.size <= k /\ k < w.heap.size + 2)) -> I pre W O -> G (pre ++ [x]) W O -> w.heap.size + 2 <= W.heap.size ->
   body.wpIn (F.inRound l) (n - 1 - 1) P (ownPostO O W0.heap.size I Ix (pre ++ [x]) W) (a₁ x W0) W)
  (hdone : ∀ (D : Nat) (xs : List α) (W : World) (O : Nat -> Prop), D = w.heap.size -> S xs -> I xs W O -> W.heap[D]? = some (.deferred (some [])) -> Q .normal { a with defers := { target := .collected D, args := #[] } :: a.defers } W)
  (hstop : ∀ (D : Nat) (c : Code) (pre : List α) (W : World), D = w.heap.size -> Sp pre -> Ix c pre W -> W.heap[D]? = some (.deferred (some [])) -> c.wpIn F n P Q { a with defers := { target := .collected D, args := #[] } :: a.defers } W) :
  (Code.rangeFunc g ps assign body).wpIn F n P Q a w := by
 refine wpIn_rangeFunc fun fn hfn => ?_;rw [hro];obtain ⟨rc, hrc⟩ : ∃ rc : LoopState -> Option Code -> Loop, ∀ st pe, rc st pe = { state := st, pending := pe, fn, tmps := a.tmps, params := ps, assign, body, defers := w.heap.size } := ⟨fun st pe => _, fun _ _ => rfl⟩;obtain ⟨W1, hW1⟩ : ∃ W1, (w.alloc (.deferred (some []))).alloc (.loop (rc .ready none)) = W1 := ⟨_, rfl⟩;have hk1 : Kept w W1 := by rw [<- hW1]; exact ((Kept.refl w).alloc _).alloc _
 have hs1 : W1.heap.size = w.heap.size + 2 := by rw [<- hW1]; simp
 have hL1 : W1.heap[w.heap.size + 1]? = some (.loop (rc .ready none)) := by
  rw [<- hW1]; have := heap_alloc_new (w.alloc (.deferred (some []))) (.loop (rc .ready none)); rwa [World.size_alloc] at this
 have hD1 : W1.heap[w.heap.size]? = some (.deferred (some [])) := by
  rw [<- hW1]; exact (Below.heap_alloc _ _ _ (by simp)).trans (heap_alloc_new w _)
 refine ⟨w.heap.size + 1, [{ target := .collected w.heap.size, args := #[] }], W1, { target := .fn (.func gf) lb, args := #[.func (.yield (w.heap.size + 1)) #[] #[]] }, W1, gf,
  #[.func (.yield (w.heap.size + 1)) #[] #[]] ++ lb, W1, by rw [<- hW1, hrc]; exact run_enterLoop_outer _ _ _ _ _, ?_, ?_, ?_, fun _ => h1, ?_⟩
 ·simp only [resolve, hg];simp [go_sem]
 ·intro f' hf'; simp [Target.leads] at hf'; subst hf'; exact hFg
 ·simp [invoke, go_sem, eg]
 ·refine (hseq W1 hk1 hs1 (w.heap.size + 1)
   (fun pre W O => I pre W O /\ (∀ k, O k -> ¬ (w.heap.size <= k /\ k < w.heap.size + 2)) /\ W.heap[w.heap.size + 1]? = some (.loop (rc .ready none)) /\ W.heap[w.heap.size]? = some (.deferred (some [])))
   (fun pre W => ∃ c, Ix c pre W /\ W.heap[w.heap.size + 1]? = some (.loop (rc .done (some c))) /\ W.heap[w.heap.size]? = some (.deferred (some [])))
   O0 (by omega) (fun k hk => ⟨(hO0 k hk).1, by have := (hO0 k hk).2; omega⟩) ?abJ ?abJx ?round ⟨hI _ _ _ _ h0 (Only.of_kept hk1), fun k hk => by have := (hO0 k hk).2; omega, hL1, hD1⟩).mono ?behind
  case abJ =>
   rintro s A B O ⟨hi, hn, hl, hd⟩ ho;exact ⟨hI _ _ _ _ hi (ho.mono fun k _ h => ⟨by have := h.1; omega, h.2⟩), hn, (ho.block _ (Array.getElem?_eq_some_iff.1 hl).1 (fun h => by have := h.1; omega)).trans hl, (ho.block _ (Array.getElem?_eq_some_iff.1 hd).1 (fun h => by have := h.1; omega)).trans hd⟩
  case abJx =>
   rintro s A B ⟨c, hi, hl, hd⟩ ho;exact ⟨c, hIx _ _ _ _ hi (Only.of_kept ho), (ho.block _ (Array.getElem?_eq_some_iff.1 hl).1).trans hl, (ho.block _ (Array.getElem?_eq_some_iff.1 hd).1).trans hd⟩
  case round =>
   rintro pre x W0 O ⟨hi0, hn0, hl0, hd0⟩ hlen hsz hOl;have hlt0 : w.heap.size + 1 < W0.heap.size := (Array.getElem?_eq_some_iff.1 hl0).1;have hy := run_yield (P := P) (args := encs x) hl0 (by rw [hrc]; exact hps x);rw [hrc] at hy;obtain ⟨W, hW⟩ : ∃ W, W = wa x W0 := ⟨_, rfl⟩;have hkW : Kept W0 W := by rw [hW]; exact hwa x W0
   have hl : W.heap[w.heap.size + 1]? = some (.loop (rc .ready none)) := (hkW.block _ hlt0).trans hl0;have hd : W.heap[w.heap.size]? = some (.deferred (some [])) := (hkW.block _ (by omega)).trans hd0;have hi : I pre W O := hI _ _ _ _ hi0 (Only.of_kept hkW);have hlt : w.heap.size + 1 < W.heap.size := (Array.getElem?_eq_some_iff.1 hl).1;have hszW := hkW.size;have hOn : ∀ k, O k -> k < W0.heap.size /\ ¬ (w.heap.size <= k /\ k < w.heap.size + 2) := fun k hk => ⟨(hOl k hk).1, hn0 k hk⟩;have loopI : ∀ (s : List α) (A : World) (O : Nat -> Prop) (o : Obj), (∀ k, O k -> ¬ (w.heap.size <= k /\ k < w.heap.size + 2)) -> I s A O -> I s (A.putObj (w.heap.size + 1) o) O := fun s A O o hn h =>
    hI _ _ _ _ h ((Only.refl _ _).putObj (.inl ⟨by omega, fun h => hn _ h (by omega)⟩) _)
   have loopG : ∀ (s : List α) (A : World) (O : Nat -> Prop) (o : Obj), G s A O -> G s (A.putObj (w.heap.size + 1) o) O := fun s A O o h => hG _ _ _ _ h ((Only.refl _ _).putObj (.inl ⟨by omega, by omega⟩) _);refine ⟨fn, _, assign, body, hy, roundIn_of_wpIn hfn (hassign _ x W0 _ ⟨_, by rw [<- hW]; exact run_beginRound hl (by rw [hrc]), ?_⟩)⟩;have hl2 : (W.putObj (w.heap.size + 1) (.loop { rc .ready none with state := .busy })).heap[w.heap.size + 1]? = some (.loop { rc .ready none with state := .busy }) := World.putObj_heap_same hlt;have hd2 : (W.putObj (w.heap.size + 1) (.loop { rc .ready none with state := .busy })).heap[w.heap.size]? = some (.deferred (some [])) := (World.putObj_heap_other (by omega)).trans hd;have hob : Only (· = w.heap.size + 1) (wa x W0) (W.putObj (w.heap.size + 1) (.loop { rc .ready none with state := .busy })) := by rw [<- hW]; exact (Only.refl (· = w.heap.size + 1) W).putObj (.inl rfl) _
   refine wpIn_mono (hbody _ pre x W0 _ O rfl hlt0 hob hOn (loopI _ _ _ _ hn0 hi) (loopG _ _ _ _ (hG _ _ _ _ hlen (Only.of_kept hkW))) (by simp [World.putObj]; omega)) ?_;have ends : ∀ (jump : Option Code) (W3 : World), Only (fun k => O k ∨ W0.heap.size <= k) (W.putObj (w.heap.size + 1) (.loop { rc .ready none with state := .busy })) W3 ->
     (Instr.endRound (w.heap.size + 1) jump).run P W3 = .ok (.bool jump.isNone) (W3.putObj (w.heap.size + 1) (.loop (rc (if jump.isNone then .ready else .done) jump))) /\
     (W3.putObj (w.heap.size + 1) (.loop (rc (if jump.isNone then .ready else .done) jump))).heap[w.heap.size + 1]? = some (.loop (rc (if jump.isNone then .ready else .done) jump)) /\
     (W3.putObj (w.heap.size + 1) (.loop (rc (if jump.isNone then .ready else .done) jump))).heap[w.heap.size]? = some (.deferred (some [])) /\
     Only (fun k => O k ∨ k = w.heap.size + 1) W0 (W3.putObj (w.heap.size + 1) (.loop (rc (if jump.isNone then .ready else .done) jump))) := fun jump W3 ho => by
    have hl3 := ho.same hl2 (fun h => h.elim (fun h => hn0 _ h (by omega)) (fun h => by omega));have hd3 := ho.same hd2 (fun h => h.elim (fun h => hn0 _ h (by omega)) (fun h => by omega));have hr := run_endRound (P := P) jump hl3;refine ⟨?_, World.putObj_heap_same (Array.getElem?_eq_some_iff.1 hl3).1, (World.putObj_heap_other (by omega)).trans hd3, ?_⟩
    ·rw [hrc] at hr ⊢; exact hr
    ·exact Only.viaO hkW ((Only.refl (· = w.heap.size + 1) W).putObj (.inl rfl) _) ho ((Only.refl (· = w.heap.size + 1) W3).putObj (.inl rfl) _)
   rintro e a3 W3 hp
   cases e with
   | normal =>
    obtain ⟨hr, hl4, hd4, ho4⟩ := ends none W3 hp.1;obtain ⟨O', hO', hi'⟩ := hp.2;have hn' : ∀ k, O' k -> ¬ (w.heap.size <= k /\ k < w.heap.size + 2) := fun k hk => (hO' k hk).elim (hn0 k) (fun h => by omega);exact ⟨_, _, hr, .inl ⟨rfl, O', ⟨loopI _ _ _ _ hn' hi', hn', hl4, hd4⟩, ho4, fun k hk => (hO' k hk).imp id (fun h => ⟨h.1, by simp [World.putObj]; exact h.2⟩)⟩⟩
   | ret =>
    obtain ⟨hr, hl4, hd4, ho4⟩ := ends (some .ret) W3 hp.1;exact ⟨_, _, hr, .inr ⟨rfl, .ret, hIx _ _ _ _ hp.2 ((Only.refl _ _).putObj (.inl ⟨by omega, by omega⟩) _), hl4, hd4⟩⟩
   | exit id =>
    obtain ⟨hr, hl4, hd4, ho4⟩ := ends (some (.exit id)) W3 hp.1;exact ⟨_, _, hr, .inr ⟨rfl, .exit id, hIx _ _ _ _ hp.2 ((Only.refl _ _).putObj (.inl ⟨by omega, by omega⟩) _), hl4, hd4⟩⟩
   | goto t =>
    obtain ⟨hr, hl4, hd4, ho4⟩ := ends (some (.goto t)) W3 hp.1;exact ⟨_, _, hr, .inr ⟨rfl, .goto t, hIx _ _ _ _ hp.2 ((Only.refl _ _).putObj (.inl ⟨by omega, by omega⟩) _), hl4, hd4⟩⟩
   | panic ch => exact hp.elim
   | outgrown => exact hp.elim
  case behind =>
   rintro e W2 ⟨⟨v, rfl⟩, (⟨xs, O, hS, hi, hn, hl, hd⟩ | ⟨pre, hSp, c, hi, hl, hd⟩)⟩
   ·refine ⟨none, _, by have := run_endLoop (P := P) hl (by rw [hrc]; simp); rw [hrc] at this; exact this, hdone _ xs _ O rfl hS (hI _ _ _ _ hi ((Only.refl _ _).putObj (.inl ⟨by omega, fun h => hn _ h (by omega)⟩) _)) ((World.putObj_heap_other (by omega)).trans hd)⟩
   ·refine ⟨some c, _, by have := run_endLoop (P := P) hl (by rw [hrc]; simp); rw [hrc] at this; exact this, hstop _ c pre _ rfl hSp (hIx _ _ _ _ hi ((Only.refl _ _).putObj (.inl ⟨by omega, by omega⟩) _)) ((World.putObj_heap_other (by omega)).trans hd)⟩
end
end Go.Proofs.YtegcgflhgfmkpaaGreatDoor
