/- Plain laws on a map that a literal fills, whatever its elements are: an entry more, and what is told of a key, with 'ok'. The elements are read as themselves. No program is named here. A map from texts, as a function: what a look-up tells, what a store makes of it. No program is named here. -/
import Derived.Test.YtjdkegfckkbpeaaGreatDoorQz2
import Derived.Maps.OwnSet
import Derived.Maps.OwnIn
import Derived.RangeFuncNested
import Derived.RangeFuncBound
import Derived.RangeFuncCalls
import Derived.RangeFuncLeaves
import Derived.RangeFuncBox
import Derived.Laws.Rows
import Derived.Shelf.Abstract
import Derived.Shelf.RegionOpen
import Derived.WalkKit
import Derived.OwnWalkIn
import Derived.TacticsInMore
import Derived.LoopNIn
import Derived.LoopIn
import Derived.Sort.LoopGhostIn
import Derived.Maps.AppendAt
import Derived.WalkLawsBesides
import Derived.Laws.MakeOwn
import Derived.Test.YtjdkegfckkbpeaaGreatDoorRows
import Derived.Recover
import Derived.OrdersIn
import Derived.Orders
import Derived.Deep.AppendSrc
import Derived.Deep.AppendLies
import Derived.OwnWalk
import Derived.Deep.Draws
import Derived.Test.YtjdkegfckkbpeaaGreatDoorQTkk
import Derived.Deep.RegionLaw
import Derived.Sort.Grow
import Derived.DeepKeys4
import Derived.Maps.Range
import Derived.Maps.Views
import Derived.Sort.MapsRangeIn
set_option linter.unusedSimpArgs false
set_option linter.unusedVariables false
set_option maxRecDepth 100000
namespace Go.Proofs.YtjdkegfckkbpeaaGreatDoor
open Go.ChangeShapes Go.WideShapes Go.ChangeAt Go.RowKit
open Go.Maps (Keyed)
/-- An element reads as itself. -/
def selfElem : Value → Option (DataW Value × List MemPlace) := fun v => some (.held v, [])
theorem selfElem_inv {v x : Value} {ps : List MemPlace} (h : selfElem v = some (.held x, ps)) : v = x := by
 unfold selfElem at h; cases h; rfl
end Go.Proofs.YtjdkegfckkbpeaaGreatDoor
namespace Go.Proofs.YtjdkegfckkbpeaaGreatDoor
open Go.ChangeShapes Go.WideShapes Go.ChangeAt Go.RowKit
open Go.Maps (Keyed)
/-- Block b holds a map that tells f. -/
def MapF (P : Program) (k : TypeId) (b n : Nat) (f : ByteArray → Option Value) (W : World) : Prop :=
 ∃ D : DataW Value, W.ownsMap P k selfElem b n D ∧ Maps.IsMap D ∧ ∀ s, Maps.has D (.string s.data.toList) = (f s).isSome ∧ ∀ v, f s = some v → ∀ z, D.atKey (.string s.data.toList) z = .held v
section
variable {P : Program} {k e t : TypeId} {b n : Nat} {f : ByteArray → Option Value} {W : World}
theorem MapF.made (W : World) (P : Program) (k : TypeId) : MapF P k W.heap.size 0 (fun _ => none) (W.alloc (.map #[] 0)) :=
 ⟨.map [], World.ownsMap_made W P k selfElem, Maps.isMap_empty, fun s => ⟨rfl, fun v h => by cases h⟩⟩
theorem MapF.lt (h : MapF P k b n f W) : b < W.heap.size := by obtain ⟨D, h1, _⟩ := h; exact h1.lt
theorem MapF.only {S : Nat → Prop} {W' : World} (h : MapF P k b n f W) (ho : Only S W W') (hs : ¬ S b) : MapF P k b n f W' := by
 obtain ⟨D, ⟨es, clock, hb, rest⟩, h2⟩ := h
 exact ⟨D, ⟨es, clock, (ho.block b (Array.getElem?_eq_some_iff.1 hb).1 hs).trans hb, rest⟩, h2⟩
theorem MapF.look (h : MapF P k b n f W) (K : Keyed P k) (ht : P.underlying t = some (.map k e)) {z : Value} (hz : (zeroValue e).run P W = .ok z W) (s : ByteArray) (hkey : keyOf P k (.string s) = some (.string s.data.toList)) :
  (Instr.lookup t (.map (some b)) (.string s) true).run P W = .ok (.tuple #[(f s).getD z, .bool (f s).isSome]) W := by
 obtain ⟨D, h1, h2, h3⟩ := h
 obtain ⟨v, ps, hr, hv⟩ := h1.look_ok K ht hz (zd := .held z) (zp := []) rfl hkey
 rw [hr, (h3 s).1]
 cases e : f s with
 | none =>
  rw [Maps.atKey_of_not_has (by rw [(h3 s).1, e]; rfl)] at hv
  rw [selfElem_inv hv]
  rfl
 | some x =>
  rw [(h3 s).2 x e] at hv
  rw [selfElem_inv hv]
  rfl
theorem str_ne {a b : ByteArray} (h : ¬ a = b) : (Lit.string a.data.toList) ≠ .string b.data.toList := by
 intro e
 injection e with e
 exact h (ByteArray.ext (Array.toList_inj.1 e))
theorem MapF.store (h : MapF P k b n f W) (K : Keyed P k) (ht : P.underlying t = some (.map k e)) (hn : n < maxLen) (s : ByteArray) (v : Value) (hkey : keyOf P k (.string s) = some (.string s.data.toList)) :
  ∃ W', (Instr.mapUpdate t (.map (some b)) (.string s) v).run P W = .ok () W' ∧ MapF P k b (n + 1) (fun x => if x = s then some v else f x) W' ∧ W.grownBy W' (some b) := by
 obtain ⟨D, h1, h2, h3⟩ := h
 obtain ⟨W', hr, ho, hg⟩ := h1.update K ht hn hkey (show selfElem v = some (.held v, []) from rfl)
 refine ⟨W', hr, ⟨_, ho, h2.put _ _, fun x => ?_⟩, hg⟩
 by_cases hx : x = s
 ·subst hx
  refine ⟨by rw [Maps.has_put_same (k := Lit.string x.data.toList) h2 trivial]; simp, fun u hu z => ?_⟩
  rw [Maps.atKey_put_same (k := Lit.string x.data.toList) h2 trivial]
  simp at hu
  rw [hu]
 ·refine ⟨by rw [Maps.has_put_other (str_ne hx)]; simp [hx, (h3 x).1], fun u hu z => ?_⟩
  rw [Maps.atKey_put_other (str_ne hx)]
  simp [hx] at hu
  exact (h3 x).2 u hu z
end
end Go.Proofs.YtjdkegfckkbpeaaGreatDoor
namespace Go.Proofs.YtjdkegfckkbpeaaGreatDoor
open Go.RowKit
theorem Only.putObj {S : Nat → Prop} {a w : World} (h : Only S a w) {l : Nat} (hl : S l ∨ a.heap.size ≤ l) (o : Obj) : Only S a (w.putObj l o) :=
 ⟨h.os, h.output, by have := h.size; simp [World.putObj]; omega, fun k hk hs => (World.putObj_heap_other (by rintro rfl; exact hl.elim hs (fun h => by omega))).trans (h.block k hk hs)⟩
theorem Only.same {S : Nat → Prop} {w w' : World} (h : Only S w w') {k : Nat} {o : Obj} (hk : w.heap[k]? = some o) (hs : ¬ S k) : w'.heap[k]? = some o :=
 (h.block k (Array.getElem?_eq_some_iff.1 hk).1 hs).trans hk
/-- An iterator's contract: it turns the blocks of It and the m ones that it makes first; what a round of the body turns lies in U, or is the loop's record. -/
def SeqOwn {α : Type} (F : Fence) (n : Nat) (P : Program) (g : Nat) (lb : Array Value) (encs : α → Array Value) (It U : Nat → Prop) (S Sp : List α → Prop) (G : List α → Prop) (m : Nat) (W : World) : Prop :=
 ∀ (l : Nat) (J Jx : List α → World → Prop), l + 1 = W.heap.size →
  (∀ s A B, J s A → Only (fun k => It k ∨ (W.heap.size ≤ k ∧ k < W.heap.size + m)) A B → J s B) → (∀ s A B, Jx s A → Only (fun k => It k ∨ (W.heap.size ≤ k ∧ k < W.heap.size + m)) A B → Jx s B) →
  (∀ pre x W1, J pre W1 → G (pre ++ [x]) → W.heap.size + m ≤ W1.heap.size → YieldAt F (n - 1) P l (encs x) W1 fun e W' =>
   (e = .returned (.bool true) ∧ J (pre ++ [x]) W' ∧ Only (fun k => U k ∨ k = l) W1 W') ∨ (e = .returned (.bool false) ∧ Jx (pre ++ [x]) W')) →
  J [] W →
  CallsIn F n P g (#[.func (.yield l) #[] #[]] ++ lb) W fun e W' => (∃ v, e = .returned v) ∧ ((∃ xs, S xs ∧ J xs W') ∨ (∃ pre, Sp pre ∧ Jx pre W'))
/-- How a round's body may be left. -/
def ownPostW {α : Type} (U : Nat → Prop) (I : List α → World → Prop) (Ix : Code → List α → World → Prop) (xs : List α) (W : World) : Exit → Act → World → Prop
 | .normal, _, W' => Only U W W' ∧ I xs W'
 | .ret, _, W' => Only U W W' ∧ Ix .ret xs W'
 | .exit id, _, W' => Only U W W' ∧ Ix (.exit id) xs W'
 | .goto t, _, W' => Only U W W' ∧ Ix (.goto t) xs W'
 | .panic _, _, _ => False
 | .outgrown, _, _ => False
section
variable {F : Fence} {n : Nat} {P : Program}
theorem wpIn_rangeFunc_ownW {α : Type} {g : Operand} {ps : Array Tmp} {assign body : Code} {Q : Exit → Act → World → Prop} {a : Act} {w : World}
  (hro : F.round = none) (h1 : 1 ≤ n) {gf : Nat} {lb : Array Value} (hg : a.eval g = .func (.func gf) #[] lb) (hFg : F.fn gf) (eg : ∀ args w, (callFunc gf args).run P w = .ok (.enter gf args) w)
  {encs : α → Array Value} {It U : Nat → Prop} {S Sp G : List α → Prop} {m : Nat}
  (hseq : ∀ W1, Kept w W1 → W1.heap.size = w.heap.size + 2 → SeqOwn F (n - 1) P gf lb encs It U S Sp G m W1)
  (hIt : ∀ k, It k → k < w.heap.size) (hU : ∀ k, U k → k ≠ w.heap.size ∧ k ≠ w.heap.size + 1) (hps : ∀ x, (encs x).size = ps.size)
  (I : List α → World → Prop) (Ix : Code → List α → World → Prop)
  (hI : ∀ s A B, I s A → Only (fun k => It k ∨ (w.heap.size ≤ k ∧ k < w.heap.size + 2 + m)) A B → I s B)
  (hIx : ∀ c s A B, Ix c s A → Only (fun k => It k ∨ (w.heap.size ≤ k ∧ k < w.heap.size + 2 + m)) A B → Ix c s B)
  (h0 : I [] w) (a₁ : α → Act)
  (hassign : ∀ (l : Nat) (x : α) (W : World) (K : Act → World → Prop), K (a₁ x) W →
   assign.wpIn (F.inRound l) (n - 1 - 1) P (Exit.then K (fun _ _ _ => False)) { tmps := (ps.zip (encs x)).foldl (fun t (p, v) => t.setIfInBounds p v) a.tmps, defers := [] } W)
  (hbody : ∀ (l : Nat) (pre : List α) (x : α) (W : World), l = w.heap.size + 1 → (∃ r, W.heap[l]? = some (.loop r)) → I pre W → G (pre ++ [x]) → w.heap.size + 2 + m ≤ W.heap.size → body.wpIn (F.inRound l) (n - 1 - 1) P (ownPostW U I Ix (pre ++ [x]) W) (a₁ x) W)
  (hdone : ∀ (D : Nat) (xs : List α) (W : World), D = w.heap.size → S xs → I xs W → W.heap[D]? = some (.deferred (some [])) → Q .normal { a with defers := { target := .collected D, args := #[] } :: a.defers } W)
  (hstop : ∀ (D : Nat) (c : Code) (pre : List α) (W : World), D = w.heap.size → Sp pre → Ix c pre W → W.heap[D]? = some (.deferred (some [])) → c.wpIn F n P Q { a with defers := { target := .collected D, args := #[] } :: a.defers } W) :
  (Code.rangeFunc g ps assign body).wpIn F n P Q a w := by
 refine wpIn_rangeFunc fun fn hfn => ?_
 rw [hro]
 obtain ⟨rc, hrc⟩ : ∃ rc : LoopState → Option Code → Loop, ∀ st pe, rc st pe = { state := st, pending := pe, fn, tmps := a.tmps, params := ps, assign, body, defers := w.heap.size } := ⟨fun st pe => _, fun _ _ => rfl⟩
 obtain ⟨W1, hW1⟩ : ∃ W1, (w.alloc (.deferred (some []))).alloc (.loop (rc .ready none)) = W1 := ⟨_, rfl⟩
 have hk1 : Kept w W1 := by rw [← hW1]; exact ((Kept.refl w).alloc _).alloc _
 have hs1 : W1.heap.size = w.heap.size + 2 := by rw [← hW1]; simp
 have hL1 : W1.heap[w.heap.size + 1]? = some (.loop (rc .ready none)) := by
  rw [← hW1]; have := heap_alloc_new (w.alloc (.deferred (some []))) (.loop (rc .ready none)); rwa [World.size_alloc] at this
 have hD1 : W1.heap[w.heap.size]? = some (.deferred (some [])) := by
  rw [← hW1]; exact (Below.heap_alloc _ _ _ (by simp)).trans (heap_alloc_new w _)
 have notl : ¬ (It (w.heap.size + 1) ∨ (W1.heap.size ≤ w.heap.size + 1 ∧ w.heap.size + 1 < W1.heap.size + m)) := fun h => h.elim (fun h => by have := hIt _ h; omega) (fun h => by omega)
 have notd : ¬ (It w.heap.size ∨ (W1.heap.size ≤ w.heap.size ∧ w.heap.size < W1.heap.size + m)) := fun h => h.elim (fun h => by have := hIt _ h; omega) (fun h => by omega)
 refine ⟨w.heap.size + 1, [{ target := .collected w.heap.size, args := #[] }], W1, { target := .fn (.func gf) lb, args := #[.func (.yield (w.heap.size + 1)) #[] #[]] }, W1, gf,
  #[.func (.yield (w.heap.size + 1)) #[] #[]] ++ lb, W1, by rw [← hW1, hrc]; exact run_enterLoop_outer _ _ _ _ _, ?_, ?_, ?_, fun _ => h1, ?_⟩
 ·simp only [resolve, hg]
  simp [go_sem]
 ·intro f' hf'; simp [Target.leads] at hf'; subst hf'; exact hFg
 ·simp [invoke, go_sem, eg]
 ·refine (hseq W1 hk1 hs1 (w.heap.size + 1)
   (fun pre W => I pre W ∧ W.heap[w.heap.size + 1]? = some (.loop (rc .ready none)) ∧ W.heap[w.heap.size]? = some (.deferred (some [])))
   (fun pre W => ∃ c, Ix c pre W ∧ W.heap[w.heap.size + 1]? = some (.loop (rc .done (some c))) ∧ W.heap[w.heap.size]? = some (.deferred (some [])))
   (by omega) ?abJ ?abJx ?round ⟨hI _ _ _ h0 (Only.of_kept hk1), hL1, hD1⟩).mono ?behind
  case abJ =>
   rintro s A B ⟨hi, hl, hd⟩ ho
   exact ⟨hI _ _ _ hi (ho.mono fun k _ h => h.imp id fun e => ⟨by omega, by omega⟩), ho.same hl notl, ho.same hd notd⟩
  case abJx =>
   rintro s A B ⟨c, hi, hl, hd⟩ ho
   exact ⟨c, hIx _ _ _ _ hi (ho.mono fun k _ h => h.imp id fun e => ⟨by omega, by omega⟩), ho.same hl notl, ho.same hd notd⟩
  case round =>
   rintro pre x W ⟨hi, hl, hd⟩ hlen hsz
   have hlt : w.heap.size + 1 < W.heap.size := (Array.getElem?_eq_some_iff.1 hl).1
   have hy := run_yield (P := P) (args := encs x) hl (by rw [hrc]; exact hps x)
   rw [hrc] at hy
   refine ⟨fn, _, assign, body, hy, roundIn_of_wpIn hfn (hassign _ x W _ ⟨_, run_beginRound hl (by rw [hrc]), ?_⟩)⟩
   have hl2 : (W.putObj (w.heap.size + 1) (.loop { rc .ready none with state := .busy })).heap[w.heap.size + 1]? = some (.loop { rc .ready none with state := .busy }) := World.putObj_heap_same hlt
   have hd2 : (W.putObj (w.heap.size + 1) (.loop { rc .ready none with state := .busy })).heap[w.heap.size]? = some (.deferred (some [])) := (World.putObj_heap_other (by omega)).trans hd
   refine wpIn_mono (hbody _ pre x _ rfl ⟨_, hl2⟩ (hI _ _ _ hi ((Only.refl _ _).putObj (.inl (.inr ⟨by omega, by omega⟩)) _)) hlen (by simp [World.putObj]; omega)) ?_
   have ends : ∀ (jump : Option Code) (W3 : World), Only U (W.putObj (w.heap.size + 1) (.loop { rc .ready none with state := .busy })) W3 →
     (Instr.endRound (w.heap.size + 1) jump).run P W3 = .ok (.bool jump.isNone) (W3.putObj (w.heap.size + 1) (.loop (rc (if jump.isNone then .ready else .done) jump))) ∧
     (W3.putObj (w.heap.size + 1) (.loop (rc (if jump.isNone then .ready else .done) jump))).heap[w.heap.size + 1]? = some (.loop (rc (if jump.isNone then .ready else .done) jump)) ∧
     (W3.putObj (w.heap.size + 1) (.loop (rc (if jump.isNone then .ready else .done) jump))).heap[w.heap.size]? = some (.deferred (some [])) ∧
     Only (fun k => U k ∨ k = w.heap.size + 1) W (W3.putObj (w.heap.size + 1) (.loop (rc (if jump.isNone then .ready else .done) jump))) := fun jump W3 ho => by
    have hl3 := ho.same hl2 (fun h => (hU _ h).2 rfl)
    have hd3 := ho.same hd2 (fun h => (hU _ h).1 rfl)
    have hr := run_endRound (P := P) jump hl3
    refine ⟨?_, World.putObj_heap_same (Array.getElem?_eq_some_iff.1 hl3).1, (World.putObj_heap_other (by omega)).trans hd3, ?_⟩
    ·rw [hrc] at hr ⊢; exact hr
    ·exact ((((Only.refl _ W).putObj (.inl (.inr rfl)) _).trans (ho.mono fun k _ h => .inl h))).putObj (.inl (.inr rfl)) _
   rintro e a3 W3 hp
   cases e with
   | normal =>
    obtain ⟨hr, hl4, hd4, ho4⟩ := ends none W3 hp.1
    exact ⟨_, _, hr, .inl ⟨rfl, ⟨hI _ _ _ hp.2 ((Only.refl _ _).putObj (.inl (.inr ⟨by omega, by omega⟩)) _), hl4, hd4⟩, ho4⟩⟩
   | ret =>
    obtain ⟨hr, hl4, hd4, ho4⟩ := ends (some .ret) W3 hp.1
    exact ⟨_, _, hr, .inr ⟨rfl, .ret, hIx _ _ _ _ hp.2 ((Only.refl _ _).putObj (.inl (.inr ⟨by omega, by omega⟩)) _), hl4, hd4⟩⟩
   | exit id =>
    obtain ⟨hr, hl4, hd4, ho4⟩ := ends (some (.exit id)) W3 hp.1
    exact ⟨_, _, hr, .inr ⟨rfl, .exit id, hIx _ _ _ _ hp.2 ((Only.refl _ _).putObj (.inl (.inr ⟨by omega, by omega⟩)) _), hl4, hd4⟩⟩
   | goto t =>
    obtain ⟨hr, hl4, hd4, ho4⟩ := ends (some (.goto t)) W3 hp.1
    exact ⟨_, _, hr, .inr ⟨rfl, .goto t, hIx _ _ _ _ hp.2 ((Only.refl _ _).putObj (.inl (.inr ⟨by omega, by omega⟩)) _), hl4, hd4⟩⟩
   | panic ch => exact hp.elim
   | outgrown => exact hp.elim
  case behind =>
   rintro e W2 ⟨⟨v, rfl⟩, (⟨xs, hS, hi, hl, hd⟩ | ⟨pre, hSp, c, hi, hl, hd⟩)⟩
   ·refine ⟨none, _, by have := run_endLoop (P := P) hl (by rw [hrc]; simp); rw [hrc] at this; exact this, hdone _ xs _ rfl hS (hI _ _ _ hi ((Only.refl _ _).putObj (.inl (.inr ⟨by omega, by omega⟩)) _)) ((World.putObj_heap_other (by omega)).trans hd)⟩
   ·refine ⟨some c, _, by have := run_endLoop (P := P) hl (by rw [hrc]; simp); rw [hrc] at this; exact this, hstop _ c pre _ rfl hSp (hIx _ _ _ _ hi ((Only.refl _ _).putObj (.inl (.inr ⟨by omega, by omega⟩)) _)) ((World.putObj_heap_other (by omega)).trans hd)⟩
end
end Go.Proofs.YtjdkegfckkbpeaaGreatDoor
namespace Go.Proofs.YtjdkegfckkbpeaaGreatDoor
open Go.ChangeShapes Go.WideShapes Go.ChangeAt Go.RowKit Go.Shelf
attribute [local go_sem] Oper.semAt_some
/-- One more behind a row that a box holds: nothing but the box and blocks from n₁ on has turned. -/
theorem appended_only {W w1 : World} {n₁ B : Nat} {t e : TypeId} {size : Nat} {v v' : Value} {k m : Nat} {xs ys : List Value} {tmp : Obj}
  (hv : Boxed W B t v) (hte : t ≠ e) (hrow : W.ownsRow n₁ e size v k xs) (hn₁ : n₁ ≤ W.heap.size)
  (hown' : w1.ownsRow n₁ e size v' m ys) (hgrow : (W.alloc tmp).grownBy w1 v.ownBlock) :
  Boxed w1 B t v ∧ Boxed (w1.setCell ⟨B, 0, none⟩ v') B t v' ∧ (w1.setCell ⟨B, 0, none⟩ v').ownsRow n₁ e size v' m ys ∧ KeepsOthers W (w1.setCell ⟨B, 0, none⟩ v') ∧ Only (fun k => k = B ∨ n₁ ≤ k) W (w1.setCell ⟨B, 0, none⟩ v') := by
 have hv1 : Boxed w1 B t v := (hv.alloc tmp).kept hgrow (hv.not_row hte hrow)
 refine ⟨hv1, hv1.set v', hown'.kept (grownBy_setCell' w1 B v') (.inr (hv1.not_row hte hown').symm), ?_, ?_⟩
 ·refine ((KeepsOthers.alloc W tmp).trans (KeepsOthers.of_grownBy hgrow fun j o ej hj => ?_)).trans (KeepsOthers.setCell _ _ _)
  rcases (hrow.alloc tmp).2 with ⟨rfl, _⟩ | ⟨g, cap, cur, rfl, _, hgb, _⟩
  ·simp [Value.ownBlock] at ej
  ·obtain rfl : g = j := by simpa [Value.ownBlock] using ej
   rw [hgb] at hj; cases hj; rfl
 ·refine (((Only.refl _ W).alloc tmp).grown hgrow fun j ej => ?_).setCell (p := ⟨B, 0, none⟩) (.inl (.inl rfl)) v'
  rcases hrow.2 with ⟨rfl, _⟩ | ⟨g, cap, cur, rfl, hb, _, _⟩
  ·simp [Value.ownBlock] at ej
  ·obtain rfl : g = j := by simpa [Value.ownBlock] using ej
   exact .inl (.inr hb)
abbrev encS : ByteArray → Value := fun x => Value.string x
theorem info_str : (Tryz.prog.info? 9).map (fun i => (i.zero, i.size, i.bytes)) = some (some (.string ⟨#[]⟩), 1, 16) := by kernel_rfl
/-- A block whose first cells are these texts. -/
def TxtAt (w : World) (g : Nat) (l : List ByteArray) : Prop := ∃ cur, w.heap[g]? = some (.cells cur 9 (0, 0)) ∧ cur.toList.take l.length = l.map encS
theorem TxtAt.cell {w : World} {g : Nat} {l : List ByteArray} (h : TxtAt w g l) (k : Nat) (hk : k < l.length) : w.cell? ⟨g, k, none⟩ = some (.string l[k]) := by
 obtain ⟨cur, h1, h2⟩ := h
 rw [cell_of_row w g k cur _ _ h1, ← Array.getElem?_toList]
 have h3 : (cur.toList.take l.length)[k]? = (l.map encS)[k]? := by rw [h2]
 rw [List.getElem?_take_of_lt hk, List.getElem?_map, List.getElem?_eq_getElem hk] at h3
 exact h3
/-- A list of texts of one's own. -/
def Texts (w w' : World) (v : Value) (l : List ByteArray) : Prop := (∃ g c, v = .slice (some ⟨g, 0, none⟩) l.length c ∧ w.heap.size ≤ g ∧ TxtAt w' g l) ∧ Kept w w'
end Go.Proofs.YtjdkegfckkbpeaaGreatDoor
namespace Go.Proofs.YtjdkegfckkbpeaaGreatDoor
open Go.RowKit Go.Shelf
attribute [local go_sem] Oper.semAt_some
/-- Which of n places have been passed. -/
def psC (n : Nat) (ps : List Nat) : Array Value := (Array.range n).map fun i => Value.bool (decide (i ∈ ps))
theorem psC_size (n : Nat) (ps : List Nat) : (psC n ps).size = n := by simp [psC]
theorem psC_at {n i : Nat} (ps : List Nat) (h : i < n) : (psC n ps)[i]? = some (.bool (decide (i ∈ ps))) := by simp [psC, h]
theorem psC_set {n i : Nat} (ps : List Nat) (h : i < n) : (psC n ps).setIfInBounds i (.bool true) = psC n (ps ++ [i]) := by
 refine Array.ext (by simp [psC]) fun k h1 h2 => ?_
 simp only [psC_size] at h2
 simp only [psC, Array.getElem_setIfInBounds, Array.getElem_map, Array.getElem_range]
 by_cases e : i = k
 ·subst e; simp
 ·have e' : ¬ k = i := fun h => e h.symm
  rw [Array.getElem_setIfInBounds_ne (by simpa using h2) e]
  simp [e']
theorem psC_new (n : Nat) : madeCells (Value.bool false).cells (n * 1) = psC n [] := by
 unfold madeCells psC
 simp [Value.cells, Nat.mod_one]
theorem info_bool : (Tryz.prog.info? 4).map (fun i => (i.zero, i.size, i.bytes)) = some (some (.bool false), 1, 1) := by kernel_rfl
theorem mk_passed (n : Nat) (h : n ≤ 1000) (w : World) : (Instr.makeSlice 116 (.int .i64 (n : Int)) (.int .i64 (n : Int))).run Tryz.prog w = .ok (.slice (some ⟨w.heap.size, 0, none⟩) n n) (w.alloc (.cells (psC n []) 4)) := by
 obtain ⟨i0, hi, hz0, hz1, hz2⟩ := info_parts info_bool
 have := run_makeSlice (P := Tryz.prog) (w := w) 116 4 i0 (.bool false) Tryz.underlying116 hi hz0 .i64 .i64 (n : Int) (n : Int) (by omega) (by omega) (by rw [hz1]; simp; omega) (by rw [hz2]; omega) (by omega)
 rw [this, hz1]
 simp only [Int.toNat_natCast, psC_new]
/-- What the iterator yields for a place: the class's address. -/
def evC (a : Option Addr) (i : Nat) : Option Addr := a.map fun x => ⟨x.block, x.off + i * 4, none⟩
def elC (a : Option Addr) (i : Nat) : Value := .pointer (evC a i)
theorem line_lineC (a : Option Addr) (c : Nat) (t : List Tab.C) (s : ByteArray) (w : World) :
  Calls Tryz.prog 132 #[.slice a t.length c, .string s] w fun e w' => e = .returned (.func (.func 164) #[] #[.pointer (some ⟨w.heap.size, 0, none⟩), .pointer (some ⟨w.heap.size + 1, 0, none⟩)]) ∧
   w' = (w.alloc (.cells #[.slice a t.length c] 22)).alloc (.cells #[.string s] 9) := by
 go_enter Tryz.func132, Tryz.ntmps132
 go_wp2_with fail
 go_ret
 exact ⟨rfl, rfl⟩
theorem dec_in {i : Nat} {ps : List Nat} (h : i ∈ ps) : decide (i ∈ ps) = true := decide_eq_true h
theorem dec_out {i : Nat} {ps : List Nat} (h : i ∉ ps) : decide (i ∈ ps) = false := decide_eq_false h
section
variable {S : Nat → Prop} {w0 w w' : World}
theorem Kept.onlyS (h : Kept w0 w) (k : Only S w w') (hs : ∀ k, S k → w0.heap.size ≤ k) : Kept w0 w' := h.only k rfl hs
end
theorem Row.cellsC {w : World} {a : Option Addr} {c : Nat} {t : List Tab.C} (h : TabAt w (.slice a t.length c) t) {i : Nat} (hi : i < t.length) :
  ∃ b o, a = some ⟨b, o, none⟩ ∧ ClsAt w b (o + i * 4) (Tab.nth t i) := by
 obtain ⟨a', c', e, h1, h2, h3⟩ := h
 injection e with e1 e2 e3
 subst e1 e3
 exact h3 i _ (Tab.of_nth hi)
set_option maxHeartbeats 4000000 in
theorem line1_own (n : Nat) (hn : 1 ≤ n) (a : Option Addr) (c : Nat) (t : List Tab.C) (s : ByteArray) (w0 : World) (bt bn : Nat) (U : Nat → Prop) (W1 : World)
  (hT : TabAt w0 (.slice a t.length c) t) (ht : t.length ≤ 1000) (hk : Kept w0 W1) (hbt : Blk W1 bt 22 #[.slice a t.length c]) (hbn : Blk W1 bn 9 #[.string s])
  (hne : bt ≠ bn) (h1 : w0.heap.size ≤ bt) (h2 : w0.heap.size ≤ bn) (h3 : bt + 1 < W1.heap.size) (h4 : bn + 1 < W1.heap.size)
  (hU : ∀ k, U k → w0.heap.size ≤ k ∧ k ≠ bt ∧ k ≠ bn ∧ k ≠ W1.heap.size) :
  SeqOwn Fence.wide n Tryz.prog 164 #[.pointer (some ⟨bt, 0, none⟩), .pointer (some ⟨bn, 0, none⟩)] (fun i : Nat => #[elC a i]) (· = bn) U (· = Tab.line t s) (· <+: Tab.line t s) (· <+: Tab.line t s) 1 W1 := by
 intro l J Jx hl abJ abX hY h0
 have hmk := mk_passed t.length ht W1
 have c0 := hbt.cell 0
 simp at c0
 refine callsIn_of_wp Tryz.func164 rfl trivial ?_ rfl
 simp only [Tryz.ntmps164, List.size_toArray, List.length_cons, List.length_nil, Nat.reduceAdd, Nat.reduceSub, Array.replicate_succ, Array.replicate_zero, List.push_toArray, List.append_toArray, List.nil_append, List.cons_append]
 gi_wp2
 have hs0 := hk.size
 gi_loopg [5, 6] (t.length + 1) (fun g i5 i6 wr => ∃ (pre : List Nat) (nm : ByteArray), g + pre.length = t.length + 1 ∧ pre.Nodup ∧ (∀ i ∈ pre, i < t.length) ∧ Tab.line t s = pre ++ Tab.lineF t g pre nm ∧ J pre wr ∧ Kept w0 wr ∧ Blk wr bt 22 #[.slice a t.length c] ∧ Blk wr bn 9 #[.string nm] ∧ Blk wr W1.heap.size 4 (psC t.length pre))
 case atStart =>
  exact ⟨[], s, by simp, by simp, by simp, rfl, abJ _ _ _ h0 ((Only.refl _ _).alloc _), hk.alloc _, hbt.alloc _, hbn.alloc _, Blk.new _ _ _⟩
 case round =>
  obtain ⟨pre, nm, hg, hnd, hpl, hln, hJ, hkr, hb1, hb2, hb3⟩ := hrel
  have b1 := hb1.cell 0
  have b2 := hb2.cell 0
  simp at b1 b2
  have HF := Lib.hid (tfind_c t (.slice a t.length c) nm wr (tab_kept hT hkr))
  unfold FindPost at HF
  have HLN := Lib.hid hln
  have HJ := Lib.hid hJ
  have HK := Lib.hid hkr
  have HB1 := Lib.hid hb1
  have HB2 := Lib.hid hb2
  have HB3 := Lib.hid hb3
  have HY := Lib.hid hY
  have HT := Lib.hid hT
  have HND := Lib.hid hnd
  have HPL := Lib.hid hpl
  clear hln hJ hkr hb1 hb2 hb3 hY hT h0 hbt hbn c0 hmk hk hnd hpl
  cases hat : Tab.ix Tab.C.name t nm with
  | none =>
   have HN := Lib.hid (show Tab.at' t nm = none from hat)
   rw [hat] at HF
   clear hat
   simp only [Tab.num, Option.isSome_none] at HF
   gi_wp2
   refine ⟨trivial, (callsIn_wide.2 HF.out).mono ?_⟩
   rintro e w1 ⟨rfl, rfl⟩
   gi_wp2
   refine ⟨fun _ h => (by cases h), ?_⟩
   gi_wp2
   refine bodyPost_ret (results_none rfl _ _ _) rfl ?_
   exact ⟨⟨_, rfl⟩, .inl ⟨pre, by rw [HLN.out, Tab.lineF_none HN.out]; simp, HJ.out⟩⟩
  | some i =>
   have HN := Lib.hid (show Tab.at' t nm = some i from hat)
   rw [hat] at HF
   obtain ⟨hi, _⟩ := Tab.ix_lt hat
   clear hat
   simp only [Tab.num, Option.isSome_some] at HF
   have b3 := HB3.out.cell i
   rw [psC_at pre hi] at b3
   have hiI : (i : Int) < (t.length : Int) := by omega
   obtain ⟨b, o, rfl, hcl⟩ := Row.cellsC HT.out hi
   by_cases hin : i ∈ pre
   ·rw [dec_in hin] at b3
    have HI := Lib.hid hin
    clear hin hcl
    gi_wp2
    refine ⟨trivial, (callsIn_wide.2 HF.out).mono ?_⟩
    rintro e w1 ⟨rfl, rfl⟩
    gi_wp2
    refine ⟨fun _ h => (by cases h), ?_⟩
    gi_wp2
    refine bodyPost_ret (results_none rfl _ _ _) rfl ?_
    exact ⟨⟨_, rfl⟩, .inl ⟨pre, by rw [HLN.out, Tab.lineF_passed HN.out HI.out]; simp, HJ.out⟩⟩
   ·rw [dec_out hin] at b3
    have hnd' : (pre ++ [i]).Nodup := by
     rw [List.nodup_append]
     exact ⟨HND.out, by simp, fun x hx y hy => by simp at hy; subst hy; rintro rfl; exact hin hx⟩
    have hpl' : ∀ k ∈ pre ++ [i], k < t.length := fun k hk => by
     rcases List.mem_append.1 hk with h | h
     ·exact HPL.out k h
     ·simp at h; omega
    have hlen := Tab.places_le t.length _ hnd' hpl'
    simp at hlen
    obtain ⟨g, rfl⟩ : ∃ g, gk = g + 1 := ⟨gk - 1, by omega⟩
    have hln' : Tab.line t s = (pre ++ [i]) ++ Tab.lineF t g (pre ++ [i]) (Tab.nth t i).super := by rw [HLN.out, Tab.lineF_goes HN.out hin]; simp
    obtain ⟨fn, tmps, assign, body, hy, hR⟩ := HY.out pre i wr HJ.out ⟨_, hln'.symm⟩ (by have := HB3.out.lt; omega)
    have HL2 := Lib.hid hln'
    have HND2 := Lib.hid hnd'
    have HPL2 := Lib.hid hpl'
    clear hln' hnd' hpl' hin
    simp only [elC, evC, Option.map_some] at hy
    gi_wp2
    refine ⟨trivial, (callsIn_wide.2 HF.out).mono ?_⟩
    rintro e w1 ⟨rfl, rfl⟩
    gi_wp2
    refine hR.mono ?_
    rintro e W3 (⟨rfl, hJ3, hk3⟩ | ⟨rfl, hJx3⟩)
    ·have hn3 : ∀ k, (U k ∨ k = l) → w0.heap.size ≤ k := fun k h => h.elim (fun h => (hU k h).1) (by omega)
     have hk4 := HK.out.onlyS hk3 hn3
     have hb4 := HB1.out.only hk3 (fun h => h.elim (fun h => (hU _ h).2.1 rfl) (by omega))
     have hb5 := HB2.out.only hk3 (fun h => h.elim (fun h => (hU _ h).2.2.1 rfl) (by omega))
     have hb6 := HB3.out.only hk3 (fun h => h.elim (fun h => (hU _ h).2.2.2 rfl) (by omega))
     have d1 := hb4.cell 0
     have d2 := hb5.cell 0
     have d3 := hb6.cell i
     have f2 := hb5.frozen 0
     have f3 := hb6.frozen i
     have hne1 : W1.heap.size ≠ bt := by omega
     have hne2 : W1.heap.size ≠ bn := by omega
     rw [psC_at pre hi] at d3
     simp at d1 d2
     have hk7 := hk4.setCell (p := ⟨W1.heap.size, i, none⟩) (by show w0.heap.size ≤ W1.heap.size; omega) (.bool true)
     obtain ⟨b', o', e', hcl7⟩ := Row.cellsC (tab_kept HT.out hk7) hi
     injection e' with e'
     injection e' with e1 e2
     subst e1 e2
     obtain ⟨_, hc7, _⟩ := hcl7
     have hb7 : Blk (W3.setCell ⟨W1.heap.size, i, none⟩ (.bool true)) bt 22 #[.slice (some ⟨b, o, none⟩) t.length c] := hb4.only ((Only.refl (· = W1.heap.size) _).put i (.bool true)) (by omega)
     have d7 := hb7.cell 0
     simp at d7
     have HL3 := Lib.hid (show J (pre ++ [i]) ((W3.setCell ⟨W1.heap.size, i, none⟩ (.bool true)).setCell ⟨bn, 0, none⟩ (.string (Tab.nth t i).super)) ∧ Kept w0 ((W3.setCell ⟨W1.heap.size, i, none⟩ (.bool true)).setCell ⟨bn, 0, none⟩ (.string (Tab.nth t i).super)) ∧
       Blk ((W3.setCell ⟨W1.heap.size, i, none⟩ (.bool true)).setCell ⟨bn, 0, none⟩ (.string (Tab.nth t i).super)) bt 22 #[.slice (some ⟨b, o, none⟩) t.length c] ∧
       Blk ((W3.setCell ⟨W1.heap.size, i, none⟩ (.bool true)).setCell ⟨bn, 0, none⟩ (.string (Tab.nth t i).super)) bn 9 #[.string (Tab.nth t i).super] ∧
       Blk ((W3.setCell ⟨W1.heap.size, i, none⟩ (.bool true)).setCell ⟨bn, 0, none⟩ (.string (Tab.nth t i).super)) W1.heap.size 4 (psC t.length (pre ++ [i])) from by
      refine ⟨abJ _ _ _ hJ3 (((Only.refl _ _).setCell (.inl (.inr ⟨Nat.le_refl _, by show W1.heap.size < W1.heap.size + 1; omega⟩)) _).setCell (.inl (.inl rfl)) _), hk7.setCell (by show w0.heap.size ≤ bn; omega) _, hb7.only ((Only.refl (· = bn) _).put 0 _) (by omega), ?_, ?_⟩
      ·exact (hb5.only ((Only.refl (· = W1.heap.size) _).put i (.bool true)) (by omega)).put 0 _
      ·rw [← psC_set pre hi]
       exact (hb6.put i (.bool true)).only ((Only.refl (· = bn) _).put 0 _) (by omega))
     clear hJ3 hk3 hk4 hb4 hb5 hb6 hk7 hb7 HT HK HB1 HB2 HB3 HJ hR HY
     gi_wp2
     gi_roundg g
     case measure => omega
     case rel => exact ⟨pre ++ [i], _, by simp; omega, HND2.out, HPL2.out, HL2.out, HL3.out⟩
    ·gi_wp2
     refine bodyPost_ret (results_none rfl _ _ _) rfl ?_
     exact ⟨⟨_, rfl⟩, .inr ⟨_, ⟨_, HL2.out.symm⟩, hJx3⟩⟩
end Go.Proofs.YtjdkegfckkbpeaaGreatDoor
namespace Go.Proofs.YtjdkegfckkbpeaaGreatDoor
open Go.RowKit Go.Shelf
attribute [local go_sem] Oper.semAt_some
theorem addr_plain (b o j : Nat) : (⟨b, o, none⟩ : Addr).add j = ⟨b, o + j, none⟩ := by
 unfold Addr.add
 split
 ·rename_i h; rw [h]; rfl
 ·rfl
theorem owns_only {S : Nat → Prop} {w w' : World} {base : Nat} {e : TypeId} {size : Nat} {v : Value} {n : Nat} {xs : List Value} (h : w.ownsRow base e size v n xs) (k : Only S w w') (hs : ∀ g, base ≤ g → ¬ S g) : w'.ownsRow base e size v n xs := by
 refine ⟨h.1, ?_⟩
 rcases h.2 with hn | ⟨g, cap, cur, rfl, hb, hgg, rest⟩
 ·exact .inl hn
 ·exact .inr ⟨g, cap, cur, rfl, hb, k.same hgg (hs g hb), rest⟩
theorem owns_slice {w : World} {base k n : Nat} {e : TypeId} {v : Value} {xs : List Value} (h : w.ownsRow base e k v n xs) : ∃ a m c, v = .slice a m c :=
 h.2.elim (fun h => ⟨none, 0, 0, h.1⟩) (fun ⟨g, cap, _, h, _⟩ => ⟨_, _, _, h⟩)
theorem owns_base {w : World} {base base' k n : Nat} {e : TypeId} {v : Value} {xs : List Value} (h : w.ownsRow base e k v n xs) (hb : base' ≤ base) : w.ownsRow base' e k v n xs :=
 ⟨h.1, h.2.imp id fun ⟨g, cap, cur, h1, h2, h3⟩ => ⟨g, cap, cur, h1, Nat.le_trans hb h2, h3⟩⟩
theorem wpIn_range_line {g : Operand} {ps : Array Tmp} {assign body : Code} {Q : Exit → Act → World → Prop} {av : Act} {w w0 : World} {bt bn : Nat} (a : Option Addr) (c : Nat) (t : List Tab.C) (s : ByteArray) (B : Nat → Prop)
  (hg : av.eval g = .func (.func 164) #[] #[.pointer (some ⟨bt, 0, none⟩), .pointer (some ⟨bn, 0, none⟩)])
  (hT : TabAt w0 (.slice a t.length c) t) (ht : t.length ≤ 1000) (hk : Kept w0 w) (hbt : Blk w bt 22 #[.slice a t.length c]) (hbn : Blk w bn 9 #[.string s])
  (hne : bt ≠ bn) (h1 : w0.heap.size ≤ bt) (h2 : w0.heap.size ≤ bn) (hB : ∀ k, B k → w0.heap.size ≤ k ∧ k < w.heap.size ∧ k ≠ bt ∧ k ≠ bn) (hps : ps.size = 1)
  (I : List Nat → World → Prop) (Ix : Code → List Nat → World → Prop)
  (hI : ∀ s A B, I s A → Only (fun k => k = bn ∨ (w.heap.size ≤ k ∧ k < w.heap.size + 2 + 1)) A B → I s B)
  (hIx : ∀ c s A B, Ix c s A → Only (fun k => k = bn ∨ (w.heap.size ≤ k ∧ k < w.heap.size + 2 + 1)) A B → Ix c s B)
  (h0 : I [] w) (a₁ : Nat → Act)
  (hassign : ∀ (l : Nat) (x : Nat) (W : World) (K : Act → World → Prop), K (a₁ x) W →
   assign.wpIn (Fence.wide.inRound l) 1 Tryz.prog (Exit.then K (fun _ _ _ => False)) { tmps := (ps.zip #[elC a x]).foldl (fun t (p, v) => t.setIfInBounds p v) av.tmps, defers := [] } W)
  (hbody : ∀ (l : Nat) (pre : List Nat) (i b o : Nat) (W : World), l = w.heap.size + 1 → (∃ r, W.heap[l]? = some (.loop r)) → I pre W → w.heap.size + 2 + 1 ≤ W.heap.size → (pre ++ [i]) <+: Tab.line t s → i < t.length → a = some ⟨b, o, none⟩ → ClsAt w0 b (o + i * 4) (Tab.nth t i) →
   body.wpIn (Fence.wide.inRound l) 1 Tryz.prog (ownPostW (fun k => B k ∨ w.heap.size + 3 ≤ k) I Ix (pre ++ [i]) W) (a₁ i) W)
  (hdone : ∀ (D : Nat) (W : World), D = w.heap.size → I (Tab.line t s) W → W.heap[D]? = some (.deferred (some [])) → Q .normal { av with defers := { target := .collected D, args := #[] } :: av.defers } W)
  (hstop : ∀ (D : Nat) (c : Code) (pre : List Nat) (W : World), D = w.heap.size → pre <+: Tab.line t s → Ix c pre W → W.heap[D]? = some (.deferred (some [])) → c.wpIn Fence.wide 3 Tryz.prog Q { av with defers := { target := .collected D, args := #[] } :: av.defers } W) :
  (Code.rangeFunc g ps assign body).wpIn Fence.wide 3 Tryz.prog Q av w := by
 have l1 := hbt.lt
 have l2 := hbn.lt
 have l0 := hk.size
 refine wpIn_rangeFunc_ownW (F := Fence.wide) (n := 3) rfl (by omega) hg trivial (enters_of Tryz.func164 (by kernel_rfl) rfl)
  (It := (· = bn)) (U := fun k => B k ∨ w.heap.size + 3 ≤ k) (S := (· = Tab.line t s)) (Sp := (· <+: Tab.line t s)) (G := (· <+: Tab.line t s)) (m := 1) (encs := fun i : Nat => #[elC a i])
  (fun W1 hk1 hs1 => line1_own (3 - 1) (by omega) a c t s w0 bt bn _ W1 hT ht (hk.trans hk1) (hbt.kept hk1) (hbn.kept hk1) hne h1 h2 (by omega) (by omega) (fun k h => ?_))
  (fun k e => by omega) (fun k h => ?_) (fun _ => hps.symm) I Ix hI hIx h0 a₁ hassign ?_ ?_ ?_
 ·rcases h with h | h
  ·obtain ⟨h3, h4, h5, h6⟩ := hB k h
   exact ⟨h3, h5, h6, by omega⟩
  ·exact ⟨by omega, by omega, by omega, by omega⟩
 ·rcases h with h | h
  ·obtain ⟨h3, h4, h5, h6⟩ := hB k h
   exact ⟨by omega, by omega⟩
  ·exact ⟨by omega, by omega⟩
 ·intro l pre i W hl hr hi hpre hsz
  have hlt : i < t.length := Tab.line_lt (hpre.subset (by simp))
  obtain ⟨b, o, e, hc⟩ := Row.cellsC hT hlt
  exact hbody l pre i b o W hl hr hi hsz hpre hlt e hc
 ·rintro D xs W e rfl hi hd
  exact hdone D W e hi hd
 ·rintro D c pre W e hp hi hd
  exact hstop D c pre W e hp hi hd
section
variable {P : Program} {ops : Array Oper} {md : Region.Mode}
end
section
variable {P : Program} {ops : Array Oper} {Q : Exit → Act → World → Prop} {md : Region.Mode} {l n : Nat}
theorem oper_wpIn_of_wp {o : Oper} {a : Act} {w : World} {K : Act → World → Prop} (hd : ∀ c, o.op ≠ .defer c) (h : o.wp P a w K Q) : o.wpIn (Fence.wide.inRound l) n P a w K Q := by
 refine ⟨fun _ _ => trivial, ?_⟩
 rw [Oper.semAt_eq _ _ _ hd]
 unfold Oper.wp at h
 generalize (execOp a.eval o).run P w = r at *
 cases r with
 | ok x w' =>
  cases x <;> simp only [Oper.upon, Oper.uponIn] at h ⊢
  case value => exact h
  case skip => exact h
  case defer => exact h
  case enter =>
   refine ⟨fun e => (by cases e), trivial, fun cs _ => ?_⟩
   obtain ⟨e, w'', fr, r, s, x⟩ := h cs
   exact ⟨e, w'', fr, (by cases e <;> exact r), comesIn_wide.2 s, x⟩
  case row =>
   refine ⟨fun e => (by cases e), fun c cs _ => ?_⟩
   obtain ⟨v, w'', hR, hs⟩ := h c cs
   exact ⟨v, w'', hR, stepsIn_wide.2 hs⟩
 | halt x w' => cases x <;> simp only [Oper.upon, Oper.uponIn] at h ⊢ <;> exact h
theorem wpOpIn_of_wpOp {i : Nat} {a : Act} {w : World} {K K' : Act → World → Prop} (hd : ∀ (i : Nat) (o : Oper), ops[i]? = some o → ∀ c, o.op ≠ .defer c) (hq : ¬ LetsOut Q)
  (hk : ∀ a w, K a w → K' a w) (h : wpOp P ops Q i K a w) : wpOpIn (Fence.wide.inRound l) n P ops Q i K' a w := by
 unfold wpOp wpOpIn at *
 split
 ·simp only [*] at h; exact hk _ _ h
 ·rename_i o ho
  simp only [ho] at h
  split
  ·rename_i hw
   simp only [hw, if_true] at h
   rcases h with h | ⟨_, h⟩
   ·exact oper_wpIn_of_wp (hd i o ho) (Oper.wp_mono hk h)
   ·exact absurd h hq
  ·rename_i hw
   simp only [hw] at h
   exact ⟨fun _ _ => trivial, hk _ _ h⟩
theorem wpAnyIn_of_wpAny (hd : ∀ (i : Nat) (o : Oper), ops[i]? = some o → ∀ c, o.op ≠ .defer c) (hq : ¬ LetsOut Q) : ∀ (fuel : Nat) (listed : Array Bool) (a : Act) (w : World),
  wpAny P md ops Q fuel listed a w → wpAnyIn (Fence.wide.inRound l) n P md ops Q fuel listed a w
 | 0, _, _, _, h => h
 | fuel + 1, listed, a, w, h => ⟨h.1, fun i hi => wpOpIn_of_wpOp hd hq (fun a w => wpAnyIn_of_wpAny hd hq fuel _ a w) (h.2 i hi)⟩
/-- None of them defers. -/
def noDefer (ops : Array Oper) : Bool := ops.all fun o => match o.op with
 | .defer _ => false
 | _ => true
theorem noDefer_spec (h : noDefer ops = true) : ∀ (i : Nat) (o : Oper), ops[i]? = some o → ∀ c, o.op ≠ .defer c := by
 intro i o ho c hc
 have hm := Array.all_eq_true_iff_forall_mem.1 h o (Array.mem_of_getElem? ho)
 rw [hc] at hm
 cases hm
/-- A region that draws, walked by the plain walk's words within a round: from 'wpAny' on. -/
theorem wpIn_region_of_any {id : Nat} {a : Act} {w : World} (hm : P.follows .mixedOrders = true) (hd : noDefer ops = true) (hq : ¬ LetsOut Q)
  (h : wpAny P .any ops Q ops.size (Array.replicate ops.size false) a w.drew) : (Code.region id ops true).wpIn (Fence.wide.inRound l) n P Q a w :=
 wpIn_region_any hm (wpAnyIn_of_wpAny (noDefer_spec hd) hq _ _ _ _ h)
end
end Go.Proofs.YtjdkegfckkbpeaaGreatDoor
namespace Go.Proofs.YtjdkegfckkbpeaaGreatDoor
open Go.RowKit
section
variable {P : Program} (w : World)
theorem run_apk (base k : Nat) (t tx ty e : TypeId) (i : TypeInfo) (z : Value) (bytes : Nat) (ht : P.underlying t = some (.slice e)) (hi : P.info? e = some i) (hz : i.zero = some z)
  (hsize : i.size = k) (hby : i.bytes = bytes) (hzs : z.cells.size = k)
  (v : Value) (n : Nat) (xs : List Value) (hown : w.ownsRow base e k v n xs)
  (x : Value) (m : Nat) (news : List Value) (hs : Src P k tx x m news w)
  (h63 : n + m ≤ maxLen) (hbytes : (n + m) * bytes ≤ 140737488355328) (hbase : base ≤ w.heap.size) :
  ∃ v' w', (Builtin.append_ #[t, tx] ty #[v, x]).run P w = .ok v' w' ∧ w'.ownsRow base e k v' (n + m) (xs ++ news) ∧ w.grownBy w' v.ownBlock ∧
   (v' = .slice none 0 0 ↔ v = .slice none 0 0 ∧ m = 0) ∧ (v'.ownBlock = v.ownBlock ∨ v'.ownBlock = some w.heap.size) := by
 subst hby
 have hsmall : n + m ≤ 9223372036854775807 := by simp only [maxLen] at h63; omega
 have hnl : news.length = m * k := hs.newsLen
 have hxl : xs.length = n * k := hown.1
 have hmul : (n + m) * k = n * k + m * k := Nat.add_mul n m k
 have hlen : (xs ++ news).length = (n + m) * k := by rw [List.length_append, hxl, hnl, hmul]
 have hs' : Src P i.size tx x m news w := by rw [hsize]; exact hs
 have grown : ∀ (old : Nat), old < n + m → ∀ (row : Option Nat),
   (w.drew.alloc (.cells ((xs ++ news).toArray ++ Builtin.zeroCells z.cells (grownCap w (n + m) old e - (n + m))) e)).ownsRow base e k
    (.slice (some ⟨w.heap.size, 0, none⟩) (n + m) (grownCap w (n + m) old e)) (n + m) (xs ++ news) ∧
   w.grownBy (w.drew.alloc (.cells ((xs ++ news).toArray ++ Builtin.zeroCells z.cells (grownCap w (n + m) old e - (n + m))) e)) row := by
  intro old ho row
  have hge := grownCap_ge w (n + m) old e
  have hcm : grownCap w (n + m) old e ≤ maxLen := grownCap_le_maxLen w (n + m) old e h63
  refine ⟨⟨hlen, .inr ⟨w.heap.size, _, _, rfl, hbase, heap_alloc_new w.drew _, hge, hcm, ?_, ?_⟩⟩, ⟨rfl, rfl, rfl, by simp, fun k hk _ => Below.heap_alloc w.drew _ k hk⟩⟩
  ·rw [Array.size_append, List.size_toArray, size_zeroCells, hzs, hlen, ← Nat.add_mul, Nat.add_sub_cancel' hge]
  ·simp only [Array.toList_append]
   rw [← hlen]
   exact List.take_left
 rcases hown.2 with ⟨rfl, rfl⟩ | ⟨g, cap, cur, rfl, hbg, hg, hnc, hcm, hcs, htake⟩
 ·have hx : xs = [] := List.eq_nil_of_length_eq_zero (by rw [hxl, Nat.zero_mul])
  subst hx
  by_cases hm : m = 0
  ·subst hm
   have hn : news = [] := List.eq_nil_of_length_eq_zero (by rw [hnl, Nat.zero_mul])
   subst hn
   refine ⟨.slice none 0 0, w, ?_, World.ownsRow_nil w base e k, ⟨rfl, rfl, rfl, Nat.le_refl _, fun _ _ _ => rfl⟩, by simp, Or.inl rfl⟩
   have hce := hs'.cells
   rcases hs.kind with ⟨e', hk⟩ | hk <;> simp [Builtin.append_, run_underlying ht, run_underlying hk, sizeOf, typeInfo, hi, hs.len, hce]
  ·have hgr := grown 0 (by omega) none
   simp only [Nat.zero_add, List.nil_append] at hgr hsmall hbytes ⊢
   have hr := run_append_grow_src (P := P) w t tx ty e i z ht hi hz none 0 0 [] (by simp [Builtin.firstCells]) x m news hs' (by omega) (by omega)
    (by rw [Nat.zero_add]; exact growslice_fits (by omega) hbytes)
   simp only [Nat.zero_add, List.nil_append] at hr
   exact ⟨_, _, hr, hgr.1, hgr.2, by simp [hm], Or.inr rfl⟩
 ·by_cases hroom : n + m ≤ cap
  ·have hcap : (n + m) * k ≤ cap * k := Nat.mul_le_mul_right k hroom
   have hfit : n * k + news.length ≤ cur.size := by rw [hnl, hcs]; omega
   have hst := run_storeCells_at P g (n * k) e news 0 cur w hg (by simpa using hfit) hs.one
   simp only [Nat.add_zero] at hst
   have hce := hs'.cells
   have hr : (Builtin.append_ #[t, tx] ty #[.slice (some ⟨g, 0, none⟩) n cap, x]).run P w = .ok (.slice (some ⟨g, 0, none⟩) (n + m) cap) (w.setRow g (cur.toList.take (n * k) ++ news ++ cur.toList.drop (n * k + news.length)).toArray) := by
    subst hsize
    rcases hs.kind with ⟨e', hk⟩ | hk <;> simp [Builtin.append_, run_underlying ht, run_underlying hk, sizeOf, typeInfo, hi, hs.len, hroom, hce, Addr.add_lit] at hst ⊢ <;> simp [hst]
   refine ⟨_, _, hr, ⟨hlen, .inr ⟨g, cap, _, rfl, hbg, setRow_heap w g cur _ e _ hg, hroom, hcm, ?_, ?_⟩⟩, ⟨rfl, rfl, rfl, by simp, fun k _ hk => setRow_other w g k _ (fun e => hk (by simp [Value.ownBlock, e]))⟩, by simp, Or.inl rfl⟩
   ·have := hfit
    simp only [List.size_toArray, List.length_append, List.length_take, List.length_drop, Array.length_toList]
    omega
   ·rw [htake, ← hlen]
    exact List.take_left
  ·have hgr := grown cap (by omega) (Value.ownBlock (.slice (some ⟨g, 0, none⟩) n cap))
   have hcl : ∀ j u, xs[j]? = some u → w.drew.cell? ((⟨g, 0, none⟩ : Addr).add j) = some u := fun j u hu => by
    have := hown.cells (g := g) rfl j u hu
    simpa using this
   have hr := run_append_grow_src (P := P) w t tx ty e i z ht hi hz (some ⟨g, 0, none⟩) n cap xs (run_firstCells_some w.drew i.size n ⟨g, 0, none⟩ n cap xs (by rw [hsize]; exact hown.1) hcl) x m news hs' (by omega) (by omega)
    (growslice_fits (by omega) hbytes)
   exact ⟨_, _, hr, hgr.1, hgr.2, by simp, Or.inr rfl⟩
end
theorem step_apk {P : Program} {ops : Array Oper} {o : Oper} {a : Act} {K : Act → World → Prop} {Q : Exit → Act → World → Prop} {E : Prop} {w : World} (hgd : o.guard = none) (s x : Operand) (t tx : TypeId)
  (ho : o.op = .call { callee := .builtin .append, args := #[s, x], argTypes := #[t, tx] }) (base k : Nat) (e : TypeId) (i : TypeInfo) (z : Value) (bytes : Nat) (ht : P.underlying t = some (.slice e)) (hi : P.info? e = some i) (hz : i.zero = some z)
  (hsize : i.size = k) (hby : i.bytes = bytes) (hzs : z.cells.size = k)
  {v vx : Value} {n m : Nat} {xs news : List Value} (hs : a.eval s = v) (hown : w.ownsRow base e k v n xs) (hx : a.eval x = vx) (hsrc : Src P k tx vx m news w)
  (h63 : n + m ≤ maxLen) (hbytes : (n + m) * bytes ≤ 140737488355328) (hbase : base ≤ w.heap.size)
  (hK : ∀ v' w', w'.ownsRow base e k v' (n + m) (xs ++ news) → w.grownBy w' v.ownBlock → (v' = .slice none 0 0 ↔ v = .slice none 0 0 ∧ m = 0) → (v'.ownBlock = v.ownBlock ∨ v'.ownBlock = some w.heap.size) → K (a.put o.dst v') w') :
  if Region.wanted o (yielded ops a.tmps) = true then Oper.wp P o a w K Q else E := by
 have hw : Region.wanted o (yielded ops a.tmps) = true := by simp [Region.wanted, hgd]
 rw [if_pos hw]
 obtain ⟨v', w', hr, h2, h3, h4, h5⟩ := run_apk (P := P) w base k t tx o.type e i z bytes ht hi hz hsize hby hzs v n xs hown vx m news hsrc h63 hbytes hbase
 unfold Oper.wp execOp
 simp only [ho, resolve, invoke, builtin, Sem.run_bind, Sem.run_pure, Result.andThen_ok, List.map_toArray, List.map_cons, List.map_nil, hs, hx, hr]
 exact hK v' w' h2 h3 h4 h5
theorem wpList_apk {P : Program} {ops : Array Oper} {rest : List Oper} {o : Oper} {a : Act} {Q : Exit → Act → World → Prop} {w : World} (hgd : o.guard = none) (s x : Operand) (t tx : TypeId)
  (ho : o.op = .call { callee := .builtin .append, args := #[s, x], argTypes := #[t, tx] }) (base k : Nat) (e : TypeId) (i : TypeInfo) (z : Value) (bytes : Nat) (ht : P.underlying t = some (.slice e)) (hi : P.info? e = some i) (hz : i.zero = some z)
  (hsize : i.size = k) (hby : i.bytes = bytes) (hzs : z.cells.size = k)
  {v vx : Value} {n m : Nat} {xs news : List Value} (hs : a.eval s = v) (hown : w.ownsRow base e k v n xs) (hx : a.eval x = vx) (hsrc : Src P k tx vx m news w)
  (h63 : n + m ≤ maxLen) (hbytes : (n + m) * bytes ≤ 140737488355328) (hbase : base ≤ w.heap.size)
  (hK : ∀ v' w', w'.ownsRow base e k v' (n + m) (xs ++ news) → w.grownBy w' v.ownBlock → (v'.ownBlock = v.ownBlock ∨ v'.ownBlock = some w.heap.size) → wpList P ops Q rest (a.put o.dst v') w') : wpList P ops Q (o :: rest) a w :=
 wpList_plain hgd fun K' hk => by
  obtain ⟨v', w', hr, h2, h3, h4, h5⟩ := run_apk (P := P) w base k t tx o.type e i z bytes ht hi hz hsize hby hzs v n xs hown vx m news hsrc h63 hbytes hbase
  unfold Oper.wp execOp
  simp only [ho, resolve, invoke, builtin, Sem.run_bind, Sem.run_pure, Result.andThen_ok, List.map_toArray, List.map_cons, List.map_nil, hs, hx, hr]
  exact hk _ _ (hK v' w' h2 h3 h5)
/-- One more behind a row that a box holds, as what a round may turn. -/
theorem app_only {w W w1 : World} {n₁ B : Nat} {v : Value} {k m : Nat} {e : TypeId} {xs : List Value} (hk : Only (fun k => k = B ∨ n₁ ≤ k) w W) (hrow : W.ownsRow n₁ e m v k xs) (hgrow : W.grownBy w1 v.ownBlock) (hn : n₁ ≤ w.heap.size) : Only (fun k => k = B ∨ n₁ ≤ k) w w1 := by
 refine hk.grown hgrow fun j ej => ?_
 rcases hrow.2 with ⟨rfl, _⟩ | ⟨g, cap, cur, rfl, hb, _, _⟩
 ·simp [Value.ownBlock] at ej
 ·obtain rfl : g = j := by simpa [Value.ownBlock] using ej
  exact .inl (.inr hb)
/-- A block with no row's type of elements is no row's block. -/
theorem ne_row_blk {w : World} {g : Nat} {t e : TypeId} {cs : Array Value} (h : Blk w g t cs) (ht : t ≠ e) {base k n : Nat} {v : Value} {xs : List Value} (hr : w.ownsRow base e k v n xs) : v.ownBlock ≠ some g := by
 rcases hr.2 with ⟨rfl, _⟩ | ⟨g', cap, cur, rfl, _, hh, _⟩
 ·simp [Value.ownBlock]
 ·intro he
  have : g' = g := by simpa [Value.ownBlock] using he
  subst this
  unfold Blk at h
  rw [hh] at h
  injection h with h
  injection h with _ h2
  exact ht h2.symm
theorem Blk.grownBy {W W' : World} {g : Nat} {t : TypeId} {cs : Array Value} {row : Option Nat} (h : Blk W g t cs) (hg : W.grownBy W' row) (hne : row ≠ some g) : Blk W' g t cs := (hg.block g h.lt hne.symm).trans h
/-- Things of k cells each, one behind the other. -/
theorem flat_at {α : Type} {k : Nat} (f : α → List Value) (hf : ∀ x, (f x).length = k) : ∀ (l : List α) (i j : Nat) (x : α), l[i]? = some x → j < k → (l.flatMap f)[i * k + j]? = (f x)[j]?
 | [], i, j, x, h, _ => by simp at h
 | y :: r, 0, j, x, h, hj => by
  simp at h
  subst h
  rw [List.flatMap_cons, List.getElem?_append_left (by rw [hf]; omega)]
  simp
 | y :: r, i + 1, j, x, h, hj => by
  rw [List.flatMap_cons, List.getElem?_append_right (by rw [hf, Nat.add_mul]; omega), hf]
  have : (i + 1) * k + j - k = i * k + j := by rw [Nat.add_mul]; omega
  rw [this]
  exact flat_at f hf r i j x (by simpa using h) hj
theorem flat_len {α : Type} {k : Nat} (f : α → List Value) (hf : ∀ x, (f x).length = k) : ∀ (l : List α), (l.flatMap f).length = l.length * k
 | [] => by simp
 | y :: r => by rw [List.flatMap_cons, List.length_append, hf, flat_len f hf r, List.length_cons, Nat.add_mul]; omega
end Go.Proofs.YtjdkegfckkbpeaaGreatDoor
namespace Go.Proofs.YtjdkegfckkbpeaaGreatDoor
open Go.ChangeShapes Go.WideShapes Go.ChangeAt Go.RowKit Go.Shelf
attribute [local go_sem] Oper.semAt_some
theorem info_ptr : (Tryz.prog.info? 175).map (fun i => (i.zero, i.size, i.bytes)) = some (some (.pointer none), 1, 8) := by kernel_rfl
/-- Within the loop: the addresses so far. -/
def ColI (a : Option Addr) (w0 w : World) (pre : List Nat) (W : World) : Prop :=
 (∃ v, Boxed W w.heap.size 192 v ∧ W.ownsRow (w.heap.size + 4) 175 1 v pre.length (pre.map (elC a)) ∧ (v = .slice none 0 0 ↔ pre = [])) ∧ Kept w0 W
theorem col_snoc (a : Option Addr) (pre : List Nat) (i : Nat) : (pre.map (elC a)) ++ [elC a i] = (pre ++ [i]).map (elC a) := by simp
set_option maxHeartbeats 2000000 in
theorem appseq_c (a : Option Addr) (c : Nat) (t : List Tab.C) (s : ByteArray) (w0 w : World) (bt bn : Nat) (hT : TabAt w0 (.slice a t.length c) t) (ht : t.length ≤ 1000)
  (hk : Kept w0 w) (hbt : Blk w bt 22 #[.slice a t.length c]) (hbn : Blk w bn 9 #[.string s]) (hne : bt ≠ bn) (h1 : w0.heap.size ≤ bt) (h2 : w0.heap.size ≤ bn) :
  Calls Tryz.prog 171 #[.slice none 0 0, .func (.func 164) #[] #[.pointer (some ⟨bt, 0, none⟩), .pointer (some ⟨bn, 0, none⟩)]] w fun e w' =>
   ∃ v, e = .returned v ∧ w'.ownsRow (w.heap.size + 4) 175 1 v (Tab.line t s).length ((Tab.line t s).map (elC a)) ∧ Kept w0 w' := by
 obtain ⟨i0, hi, hz0, hzz1, hzz2⟩ := info_parts info_ptr
 refine (callsIn_wide (n := 3)).1 (callsIn_of_wp_marks Tryz.func171 rfl trivial (wpIn_wide.2 ?_) rfl)
 simp only [Tryz.ntmps171, List.size_toArray, List.length_cons, List.length_nil, Nat.reduceAdd, Nat.reduceSub, Array.replicate_succ, Array.replicate_zero, List.push_toArray, List.append_toArray, List.nil_append, List.cons_append]
 go_wp2_with fail
 have hk0 : Kept w0 (w.alloc (.cells #[.slice none 0 0] 192)) := hk.alloc _
 have b0 := Boxed.new w 192 (.slice none 0 0)
 have b1 := hbt.alloc (.cells #[.slice none 0 0] 192)
 have b2 := hbn.alloc (.cells #[.slice none 0 0] 192)
 have l1 := hbt.lt
 have l2 := hbn.lt
 have l0 := hk.size
 obtain ⟨W0, hW0⟩ : ∃ W0, w.alloc (.cells #[.slice none 0 0] 192) = W0 := ⟨_, rfl⟩
 have hsz : W0.heap.size = w.heap.size + 1 := by rw [← hW0]; simp
 rw [hW0] at hk0 b0 b1 b2 ⊢
 refine wpIn_wide.1 (wpIn_range_line (w0 := w0) (bt := bt) (bn := bn) a c t s (· = w.heap.size) rfl hT ht hk0 b1 b2 hne h1 h2 (fun k e => by subst e; omega) rfl
  (ColI a w0 w) (fun _ _ _ => False) ?hI (fun _ _ _ _ h _ => h) ⟨⟨_, b0, World.ownsRow_nil _ _ _ _, by simp⟩, hk0⟩
  (fun i => { tmps := #[.slice none 0 0, .func (.func 164) #[] #[.pointer (some ⟨bt, 0, none⟩), .pointer (some ⟨bn, 0, none⟩)], .pointer (some ⟨w.heap.size, 0, none⟩), undef, .slice none 0 0, elC a i, .func (.func 164) #[] #[.pointer (some ⟨bt, 0, none⟩), .pointer (some ⟨bn, 0, none⟩)], elC a i, undef, undef, undef, undef, undef], defers := [] }) ?assign ?body ?done ?stop)
 case hI =>
  rintro pre A B ⟨⟨v, h1, h2, h3⟩, h4⟩ ho
  exact ⟨⟨v, Blk.only (cs := #[v]) h1 ho (by omega), owns_only h2 ho (fun g hg => by omega), h3⟩, h4.onlyS ho (fun k h => by omega)⟩
 case assign =>
  intro l i W K hK
  gi_wp2
  exact hK
 case body =>
  rintro l pre i b o W hl _ ⟨⟨v, hv, hrow, hnil⟩, hKp⟩ hsize hpre hi' rfl hcl
  have hlen : pre.length ≤ 1000 := by
   have h1 := hpre.length_le
   have h2 := Tab.line_len t s
   simp at h1
   omega
  have hc := hv.cell
  have hN : w.heap.size + 4 ≤ W.heap.size := by omega
  have HSN := Lib.hid (col_snoc (some ⟨b, o, none⟩) pre i)
  have hx : elC (some ⟨b, o, none⟩) i = .pointer (some ⟨b, o + i * 4, none⟩) := rfl
  rw [hx] at HSN ⊢
  clear hx
  clear b0 b1 b2 hk0 hT hpre hcl hk hbt hbn
  gi_wp2_with (gi_at_builtin; refine wpListIn_append_own _ rfl _ _ 192 rfl (w.heap.size + 4) 175 i0 (.pointer none) 1 8 Tryz.underlying192 hi hz0 hzz1 hzz2 rfl (by decide) _ _ _ rfl (hrow.alloc _) ⟨W.heap.size, 0, none⟩ 1 1 [.pointer (some ⟨b, o + i * 4, none⟩)] rfl rfl (cell_one_new _ _ _) (by simp [Value.oneCell']) (by unfold maxLen; omega) (by omega) (by simp; omega) ?_; intro v' w1 hown' hgrow _; obtain ⟨g', cap', rfl⟩ := ownsRow_succ hown'; obtain ⟨hv1, hv2, hr2, hk2, hb2⟩ := appended_only hv (by decide) hrow hN hown' hgrow; have hc1 := hv1.cell; have hf1 := hv1.frozen)
  refine ⟨hb2.mono fun k _ h => h.imp id fun e => by omega, ⟨_, hv2, ?_, by simp⟩, hKp.onlyS hb2 (fun k h => by omega)⟩
  have e := HSN.out
  rw [← e]
  simpa using hr2
 case done =>
  rintro D W hD ⟨⟨v, hv, hrow, hnil⟩, hKp⟩ hd
  have HD := Lib.hid (hD.trans hsz)
  clear hD
  have hc := hv.cell
  have HO := Lib.hid (show Only (· = D) W (W.putObj D (.deferred none)) from Only.putObj (Only.refl (· = D) W) (.inl rfl) _)
  have HR := Lib.hid hrow
  have hcs : v = .slice none 0 0 ∨ ∃ g cap n, v = .slice (some ⟨g, 0, none⟩) n cap := hrow.2.elim (fun h => .inl h.1) (fun ⟨g, cap, _, h, _⟩ => .inr ⟨g, cap, _, h⟩)
  clear hrow hnil
  rcases hcs with rfl | ⟨g, cap, n, rfl⟩
  all_goals
   go_wp2
   refine ⟨by simp, .inl ⟨_, _, rfl, run_takeDeferred hd, ?_⟩⟩
   exact ⟨_, results_tmp rfl _ _ _, _, rfl, owns_only HR.out HO.out (by intro g hg e; have := HD.out; omega), hKp.onlyS HO.out (by intro k e; have := HD.out; omega)⟩
 case stop =>
  rintro D c pre W _ _ h _
  exact h.elim
theorem collect_c (a : Option Addr) (c : Nat) (t : List Tab.C) (s : ByteArray) (w0 w : World) (bt bn : Nat) (hT : TabAt w0 (.slice a t.length c) t) (ht : t.length ≤ 1000)
  (hk : Kept w0 w) (hbt : Blk w bt 22 #[.slice a t.length c]) (hbn : Blk w bn 9 #[.string s]) (hne : bt ≠ bn) (h1 : w0.heap.size ≤ bt) (h2 : w0.heap.size ≤ bn) :
  Calls Tryz.prog 138 #[.func (.func 164) #[] #[.pointer (some ⟨bt, 0, none⟩), .pointer (some ⟨bn, 0, none⟩)]] w fun e w' =>
   ∃ v, e = .returned v ∧ w'.ownsRow (w.heap.size + 4) 175 1 v (Tab.line t s).length ((Tab.line t s).map (elC a)) ∧ Kept w0 w' := by
 have H := Lib.hid (appseq_c a c t s w0 w bt bn hT ht hk hbt hbn hne h1 h2)
 clear hT hk hbt hbn
 go_enter Tryz.func138, Tryz.ntmps138
 go_wp2_with fail
 refine H.out.mono ?_
 rintro e w1 ⟨v, rfl, hrow, hK⟩
 have HR := Lib.hid hrow
 have hcs : v = .slice none 0 0 ∨ ∃ g cap n, v = .slice (some ⟨g, 0, none⟩) n cap := hrow.2.elim (fun h => .inl h.1) (fun ⟨g, cap, _, h, _⟩ => .inr ⟨g, cap, _, h⟩)
 clear hrow
 rcases hcs with rfl | ⟨g, cap, n, rfl⟩
 all_goals
  go_wp2_with fail
  go_ret
  exact ⟨_, rfl, HR.out, hK⟩
end Go.Proofs.YtjdkegfckkbpeaaGreatDoor
namespace Go.Proofs.YtjdkegfckkbpeaaGreatDoor
open Go.RowKit Go.Shelf
attribute [local go_sem] Oper.semAt_some
/-- The things from place m on, the last one first, each with its place. -/
def bk {α : Type} (L : List α) (m : Nat) : List (α × Nat) := (L.zipIdx.drop m).reverse
theorem bk_all {α : Type} (L : List α) : bk L L.length = [] := by unfold bk; simp
theorem bk_next {α : Type} {L : List α} {m : Nat} {x : α} (h : L[m]? = some x) : bk L (m + 1) ++ [(x, m)] = bk L m := by
 unfold bk
 obtain ⟨hlt, rfl⟩ := List.getElem?_eq_some_iff.1 h
 rw [show L.zipIdx.drop m = (L[m], m) :: L.zipIdx.drop (m + 1) from by
  rw [List.drop_eq_getElem_cons (by simpa using hlt)]
  simp]
 simp
theorem bk_pre {α : Type} (L : List α) (m : Nat) : bk L m <+: bk L 0 := by
 unfold bk
 rw [List.reverse_prefix, List.drop_zero]
 exact List.drop_suffix _ _
theorem bk_fst {α : Type} (L : List α) : (bk L 0).map Prod.fst = L.reverse := by
 unfold bk
 simp [List.map_reverse, List.zipIdx_map_fst]
theorem bk_mem {α : Type} {L : List α} {x : α} {k : Nat} (h : (x, k) ∈ bk L 0) : L[k]? = some x := by
 unfold bk at h
 rw [List.drop_zero, List.mem_reverse] at h
 simpa using (List.mem_zipIdx_iff_getElem?.1 h)
theorem back_lineC (v : Value) (w : World) : (∃ a n c, v = .slice a n c) →
  Calls Tryz.prog 137 #[v] w fun e w' => e = .returned (.func (.func 170) #[] #[.pointer (some ⟨w.heap.size, 0, none⟩)]) ∧
   w' = w.alloc (.cells #[v] 192) := by
 rintro ⟨a, n, c, rfl⟩
 go_enter Tryz.func137, Tryz.ntmps137
 go_wp2_with fail
 go_ret
 exact ⟨rfl, rfl⟩
set_option maxHeartbeats 4000000 in
theorem back1_own {α : Type} (n : Nat) (hn : 1 ≤ n) (L : List α) (ev : α → Option Addr) (a : Option Addr) (c B : Nat) (U : Nat → Prop) (M : World → Prop) (W1 : World) (hlen : L.length ≤ 1000001)
  (hM : ∀ l A B', l + 1 = W1.heap.size → M A → Only (fun k => U k ∨ k = l) A B' → M B') (hMB : ∀ W, M W → W.cell? ⟨B, 0, none⟩ = some (.slice a L.length c))
  (hMe : ∀ W, M W → ∀ k x, L[k]? = some x → ∃ b o, a = some ⟨b, o, none⟩ ∧ W.cell? ⟨b, o + k, none⟩ = some (.pointer (ev x))) (hM1 : M W1) :
  SeqOwn Fence.wide n Tryz.prog 170 #[.pointer (some ⟨B, 0, none⟩)] (fun y : α × Nat => #[.int .i64 y.2, .pointer (ev y.1)]) (fun _ => False) U (· = bk L 0) (· <+: bk L 0) (· <+: bk L 0) 0 W1 := by
 intro l J Jx hl abJ abX hY h0
 have c0 := hMB W1 hM1
 refine callsIn_of_wp Tryz.func170 rfl trivial ?_ rfl
 simp only [Tryz.ntmps170, List.size_toArray, List.length_cons, List.length_nil, Nat.reduceAdd, Nat.reduceSub, Array.replicate_succ, Array.replicate_zero, List.push_toArray, List.append_toArray, List.nil_append, List.cons_append]
 gi_wp2
 clear c0
 gi_loopw [3] (fun i wr => ∃ m : Nat, i = .int .i64 ((m : Int) - 1) ∧ m ≤ L.length ∧ J (bk L m) wr ∧ M wr ∧ W1.heap.size ≤ wr.heap.size) (fun i wr => (intOf i + 1).toNat)
 case atStart => exact ⟨L.length, by go_num, Nat.le_refl _, by rw [bk_all]; exact h0, hM1, Nat.le_refl _⟩
 case round =>
  obtain ⟨m, rfl, hm, hJ, hMr, hsz⟩ := hrel
  have c0 := hMB wr hMr
  by_cases h0m : m = 0
  ·subst h0m
   have HJ := Lib.hid hJ
   clear hJ h0 hY hMr hM1
   gi_wp2
   refine bodyPost_end (results_none rfl _ _ _) rfl ?_
   exact ⟨⟨_, rfl⟩, .inl ⟨_, rfl, HJ.out⟩⟩
  ·obtain ⟨k, rfl⟩ : ∃ k, m = k + 1 := ⟨m - 1, by omega⟩
   have hk : k < L.length := by omega
   have hx : L[k]? = some L[k] := List.getElem?_eq_getElem hk
   generalize L[k] = x at hx
   obtain ⟨b, o, rfl, hc⟩ := hMe wr hMr k x hx
   have hge : (0 : Int) ≤ (k : Int) := by omega
   have hkl : (k : Int) < (L.length : Int) := by omega
   have hki : (((k + 1 : Nat) : Int)) - 1 = (k : Int) := by omega
   obtain ⟨fn, tmps, assign, body, hy, hR⟩ := hY (bk L (k + 1)) (x, k) wr hJ (by rw [bk_next hx]; exact bk_pre L k) (by omega)
   have HB := Lib.hid (bk_next hx)
   have HM := Lib.hid hMr
   have HP := Lib.hid (bk_pre L k)
   dsimp only at hy
   rw [hki]
   clear hJ h0 hY hMr hM1 hx hMB hMe hki h0m
   gi_wp2
   refine hR.mono ?_
   rintro e W3 (⟨rfl, hJ3, hk3⟩ | ⟨rfl, hJx3⟩)
   ·have HJ := Lib.hid hJ3
    have HK := Lib.hid hk3
    clear hJ3 hk3
    gi_wp2
    go_roundw
    case rel => exact ⟨k, by go_num, by omega, by rw [← HB.out]; exact HJ.out, hM _ _ _ hl HM.out HK.out, by have := HK.out.size; omega⟩
    case measure => simp [intOf]
   ·gi_wp2
    refine bodyPost_ret (results_none rfl _ _ _) rfl ?_
    exact ⟨⟨_, rfl⟩, .inr ⟨_, by rw [HB.out]; exact HP.out, hJx3⟩⟩
end Go.Proofs.YtjdkegfckkbpeaaGreatDoor
namespace Go.Proofs.YtjdkegfckkbpeaaGreatDoor
open Go.ChangeShapes Go.WideShapes Go.ChangeAt Go.RowKit Go.Shelf
attribute [local go_sem] Oper.semAt_some
/-- No list of a table is long. -/
structure Small (t : List Tab.C) : Prop where
 len : t.length ≤ 1000
 fields : ∀ c ∈ t, c.fields.length ≤ 1000
 methods : ∀ c ∈ t, c.methods.length ≤ 1000
 params : ∀ c ∈ t, ∀ m ∈ c.methods, m.params.length ≤ 1000
theorem Only.trans' {S T : Nat → Prop} {a w w' : World} (h : Only S a w) (k : Only T w w') (hs : ∀ k, k < a.heap.size → T k → S k) : Only S a w' :=
 ⟨k.os.trans h.os, k.output.trans h.output, Nat.le_trans h.size k.size, fun i hi hn => (k.block i (Nat.lt_of_lt_of_le hi h.size) (fun ht => hn (hs i hi ht))).trans (h.block i hi hn)⟩
def vCells (x : Tab.V) : List Value := [.string x.name, .string x.typ]
theorem vCells_len (x : Tab.V) : (vCells x).length = 2 := rfl
theorem info_var : (Tryz.prog.info? 72).map (fun i => (i.zero, i.size, i.bytes)) = some (some (.agg #[.string ⟨#[]⟩, .string ⟨#[]⟩]), 2, 32) := by kernel_rfl
/-- What a list of variables yields to append. -/
theorem src_vars {w : World} {v : Value} {l : List Tab.V} (h : Row 2 VarAt w v l) : Src Tryz.prog 2 41 v l.length (l.flatMap vCells) w := by
 obtain ⟨a, c, rfl, h1, h2, h3⟩ := h
 cases a with
 | none =>
  cases l with
  | nil => exact Src.ofNil w Tryz.underlying41 c
  | cons x r =>
   obtain ⟨b, o, e, _⟩ := h3 0 x rfl
   cases e
 | some ad =>
  refine Src.ofSlice w Tryz.underlying41 ad l.length c _ (flat_len vCells vCells_len l) ?_ ?_
  ·intro j u hu
   have hj : j < l.length * 2 := by
    have := (List.getElem?_eq_some_iff.1 hu).1
    rwa [flat_len vCells vCells_len l] at this
   have hx : l[j / 2]? = some l[j / 2] := List.getElem?_eq_getElem (by omega)
   obtain ⟨b, o, e, hv⟩ := h3 _ _ hx
   cases e
   have hf := flat_at vCells vCells_len l (j / 2) (j % 2) _ hx (Nat.mod_lt _ (by omega))
   rw [show j / 2 * 2 + j % 2 = j by omega, hu] at hf
   rw [addr_plain]
   rcases (show j % 2 = 0 ∨ j % 2 = 1 by omega) with h0 | h0
   ·rw [h0] at hf
    have hu' : u = .string l[j / 2].name := Option.some.inj hf
    rw [hu', show o + j = o + j / 2 * 2 by omega]
    exact hv.1
   ·rw [h0] at hf
    have hu' : u = .string l[j / 2].typ := Option.some.inj hf
    rw [hu', show o + j = o + j / 2 * 2 + 1 by omega]
    exact hv.2.1
  ·intro u hu
   obtain ⟨x, _, hx⟩ := List.mem_flatMap.1 hu
   simp [vCells] at hx
   rcases hx with rfl | rfl <;> rfl
/-- The fields of the classes at some places. -/
def fldsOf (t : List Tab.C) (pre : List (Nat × Nat)) : List Tab.V := pre.flatMap fun y => (Tab.nth t y.1).fields
theorem fldsOf_snoc (t : List Tab.C) (pre : List (Nat × Nat)) (y : Nat × Nat) : fldsOf t (pre ++ [y]) = fldsOf t pre ++ (Tab.nth t y.1).fields := by unfold fldsOf; simp
theorem fldsOf_all (t : List Tab.C) (s : ByteArray) : fldsOf t (bk (Tab.line t s) 0) = Tab.fields t s := by
 unfold fldsOf Tab.fields
 rw [← bk_fst, List.flatMap_map]
theorem nth_mem {t : List Tab.C} {i : Nat} (h : i < t.length) : Tab.nth t i ∈ t := List.mem_of_getElem? (Tab.of_nth h)
theorem flat_le {α β : Type} (f : α → List β) (n : Nat) : ∀ l : List α, (∀ x ∈ l, (f x).length ≤ n) → (l.flatMap f).length ≤ l.length * n
 | [], _ => by simp
 | y :: r, h => by
  have h1 := flat_le f n r fun x hx => h x (List.mem_cons_of_mem _ hx)
  have h2 := h y (List.mem_cons_self ..)
  rw [List.flatMap_cons, List.length_append, List.length_cons, Nat.add_mul]
  omega
theorem bk_len {α : Type} (L : List α) : (bk L 0).length = L.length := by unfold bk; simp
theorem pre_line {t : List Tab.C} {s : ByteArray} {pre : List (Nat × Nat)} (h : pre <+: bk (Tab.line t s) 0) : ∀ y ∈ pre, y.1 < t.length := fun y hy => Tab.line_lt (List.mem_of_getElem? (bk_mem (h.subset hy)))
theorem fldsOf_le {t : List Tab.C} (hS : Small t) {s : ByteArray} {pre : List (Nat × Nat)} (h : pre <+: bk (Tab.line t s) 0) : (fldsOf t pre).length ≤ 1001000 := by
 have h1 := flat_le (fun y : Nat × Nat => (Tab.nth t y.1).fields) 1000 pre fun y hy => hS.fields _ (nth_mem (pre_line h y hy))
 have h2 := h.length_le
 have h3 := Tab.line_len t s
 have h4 := hS.len
 rw [bk_len] at h2
 unfold fldsOf
 have : pre.length ≤ 1001 := by omega
 have := Nat.mul_le_mul_right 1000 this
 omega
/-- Within the loop: the fields so far. -/
def FieI (t : List Tab.C) (br n₁ : Nat) (w5 : World) (pre : List (Nat × Nat)) (W : World) : Prop :=
 (∃ v, Boxed W br 41 v ∧ W.ownsRow n₁ 72 2 v (fldsOf t pre).length ((fldsOf t pre).flatMap vCells)) ∧ Only (· = br) w5 W
theorem fie_end {t : List Tab.C} {br n₁ : Nat} {w5 W w1 : World} {pre : List (Nat × Nat)} {y : Nat × Nat} {v v' : Value} (hO : Only (fun k => k = br ∨ n₁ ≤ k) W w1) (hV : Blk w1 br 41 #[v])
  (hW : w1.ownsRow n₁ 72 2 v' ((fldsOf t pre).length + (Tab.nth t y.1).fields.length) ((fldsOf t pre).flatMap vCells ++ (Tab.nth t y.1).fields.flatMap vCells)) (hK : Only (· = br) w5 W) (hbr : br < w5.heap.size) (hn : w5.heap.size ≤ n₁) :
  Only (fun k => k = br ∨ n₁ ≤ k) W (w1.setCell ⟨br, 0, none⟩ v') ∧ FieI t br n₁ w5 (pre ++ [y]) (w1.setCell ⟨br, 0, none⟩ v') := by
 have hO2 := hO.setCell (p := ⟨br, 0, none⟩) (.inl (.inl rfl)) v'
 refine ⟨hO2, ⟨v', hV.put 0 _, ?_⟩, hK.trans' hO2 fun k hk h => h.elim id fun e => by omega⟩
 have := owns_only hW ((Only.refl (· = br) w1).put 0 v') (fun g hg => by omega)
 rw [fldsOf_snoc, List.flatMap_append, List.length_append]
 exact this
theorem wpIn_range_back {g : Operand} {ps : Array Tmp} {assign body : Code} {Q : Exit → Act → World → Prop} {av : Act} {w w0 : World} {Bb base : Nat} {v : Value} (a : Option Addr) (c : Nat) (t : List Tab.C) (s : ByteArray) (B : Nat → Prop)
  (hg : av.eval g = .func (.func 170) #[] #[.pointer (some ⟨Bb, 0, none⟩)])
  (hT : TabAt w0 (.slice a t.length c) t) (ht : t.length ≤ 1000) (hB1 : Blk w Bb 192 #[v]) (hrow : w.ownsRow base 175 1 v (Tab.line t s).length ((Tab.line t s).map (elC a)))
  (hB : ∀ k, B k → k < w.heap.size ∧ k ≠ Bb ∧ k < base) (hps : ps.size = 2)
  (I : List (Nat × Nat) → World → Prop) (Ix : Code → List (Nat × Nat) → World → Prop)
  (hI : ∀ s A B, I s A → Only (fun k => w.heap.size ≤ k ∧ k < w.heap.size + 2) A B → I s B)
  (hIx : ∀ c s A B, Ix c s A → Only (fun k => w.heap.size ≤ k ∧ k < w.heap.size + 2) A B → Ix c s B)
  (h0 : I [] w) (a₁ : Nat × Nat → Act)
  (hassign : ∀ (l : Nat) (x : Nat × Nat) (W : World) (K : Act → World → Prop), K (a₁ x) W →
   assign.wpIn (Fence.wide.inRound l) 1 Tryz.prog (Exit.then K (fun _ _ _ => False)) { tmps := (ps.zip #[.int .i64 x.2, elC a x.1]).foldl (fun t (p, v) => t.setIfInBounds p v) av.tmps, defers := [] } W)
  (hbody : ∀ (l : Nat) (pre : List (Nat × Nat)) (i k b o : Nat) (W : World), l = w.heap.size + 1 → (∃ r, W.heap[l]? = some (.loop r)) → I pre W → w.heap.size + 2 + 0 ≤ W.heap.size → (pre ++ [(i, k)]) <+: bk (Tab.line t s) 0 → i < t.length → a = some ⟨b, o, none⟩ → ClsAt w0 b (o + i * 4) (Tab.nth t i) →
   body.wpIn (Fence.wide.inRound l) 1 Tryz.prog (ownPostW (fun k => B k ∨ w.heap.size + 2 ≤ k) I Ix (pre ++ [(i, k)]) W) (a₁ (i, k)) W)
  (hdone : ∀ (D : Nat) (W : World), D = w.heap.size → I (bk (Tab.line t s) 0) W → W.heap[D]? = some (.deferred (some [])) → Q .normal { av with defers := { target := .collected D, args := #[] } :: av.defers } W)
  (hstop : ∀ (D : Nat) (c : Code) (pre : List (Nat × Nat)) (W : World), D = w.heap.size → pre <+: bk (Tab.line t s) 0 → Ix c pre W → W.heap[D]? = some (.deferred (some [])) → c.wpIn Fence.wide 3 Tryz.prog Q { av with defers := { target := .collected D, args := #[] } :: av.defers } W) :
  (Code.rangeFunc g ps assign body).wpIn Fence.wide 3 Tryz.prog Q av w := by
 have l1 := hB1.lt
 obtain ⟨av', cv, hv, hge⟩ : ∃ av' cv, v = .slice av' (Tab.line t s).length cv ∧ ∀ g, v.ownBlock = some g → base ≤ g ∧ g < w.heap.size := by
  rcases hrow.2 with ⟨rfl, h0⟩ | ⟨g, cap, cur, rfl, hg1, hg2, _⟩
  ·exact ⟨none, 0, by rw [h0], fun g h => by simp [Value.ownBlock] at h⟩
  ·refine ⟨_, cap, rfl, fun g' h => ?_⟩
   have : g = g' := by simpa [Value.ownBlock] using h
   subst this
   exact ⟨hg1, (Array.getElem?_eq_some_iff.1 hg2).1⟩
 refine wpIn_rangeFunc_ownW (F := Fence.wide) (n := 3) rfl (by omega) hg trivial (enters_of Tryz.func170 (by kernel_rfl) rfl)
  (It := fun _ => False) (U := fun k => B k ∨ w.heap.size + 2 ≤ k) (S := (· = bk (Tab.line t s) 0)) (Sp := (· <+: bk (Tab.line t s) 0)) (G := (· <+: bk (Tab.line t s) 0)) (m := 0) (encs := fun y : Nat × Nat => #[.int .i64 y.2, elC a y.1])
  (fun W1 hk1 hs1 => back1_own (3 - 1) (by omega) (Tab.line t s) (evC a) av' cv Bb _ (fun W => Only B w W) W1 (by have := Tab.line_len t s; omega) ?_ ?_ ?_ (Only.of_kept hk1))
  (fun k e => e.elim) (fun k h => ?_) (fun _ => hps.symm) I Ix (fun s A B h o => hI s A B h (o.mono fun k _ e => e.elim (fun f => f.elim) id)) (fun c s A B h o => hIx c s A B h (o.mono fun k _ e => e.elim (fun f => f.elim) id)) h0 a₁ hassign ?_ ?_ ?_
 ·intro l A B' hl hM hO
  exact hM.trans' hO fun k hk h => h.elim (fun h => h.elim id fun h => by omega) (fun h => by omega)
 ·intro W hM
  have := (hB1.only hM fun h => (hB _ h).2.1 rfl).cell 0
  rw [hv] at this
  simpa using this
 ·intro W hM k x hx
  have hx' : ((Tab.line t s).map (elC a))[k]? = some (elC a x) := by rw [List.getElem?_map, hx]; rfl
  rcases hrow.2 with ⟨rfl, h0⟩ | ⟨g, cap, cur, rfl, hg1, hg2, hg3, hg4, hg5, hg6⟩
  ·obtain h0' := List.eq_nil_of_length_eq_zero h0
   rw [h0'] at hx
   simp at hx
  ·cases hv
   refine ⟨g, 0, rfl, ?_⟩
   have hc := hrow.cells (g := g) rfl k _ hx'
   rw [addr_plain] at hc
   exact (World.cell?_of_block (w := w) (hM.block g (Array.getElem?_eq_some_iff.1 hg2).1 (fun h => by have := (hB _ h).2.2; omega))).trans hc
 ·rcases h with h | h
  ·have := (hB k h).1
   exact ⟨by omega, by omega⟩
  ·exact ⟨by omega, by omega⟩
 ·rintro l pre ⟨i, k⟩ W hl hr hi hpre hsz
  have hlt : i < t.length := pre_line (t := t) (s := s) hpre (i, k) (by simp)
  obtain ⟨b, o, e, hc⟩ := Row.cellsC hT hlt
  exact hbody l pre i k b o W hl hr hi hsz hpre hlt e hc
 ·rintro D xs W e rfl hi hd
  exact hdone D W e hi hd
 ·rintro D c pre W e hp hi hd
  exact hstop D c pre W e hp hi hd
end Go.Proofs.YtjdkegfckkbpeaaGreatDoor
namespace Go.Proofs.YtjdkegfckkbpeaaGreatDoor
open Go.ChangeShapes Go.WideShapes Go.ChangeAt Go.RowKit Go.Shelf
attribute [local go_sem] Oper.semAt_some
set_option maxHeartbeats 2000000 in
theorem fields_c (a : Option Addr) (c : Nat) (t : List Tab.C) (s : ByteArray) (w : World) (hT : TabAt w (.slice a t.length c) t) (hS : Small t) :
  Calls Tryz.prog 96 #[.slice a t.length c, .string s] w fun e w' => ∃ v, e = .returned v ∧ w'.ownsRow w.heap.size 72 2 v (Tab.fields t s).length ((Tab.fields t s).flatMap vCells) ∧ Kept w w' := by
 obtain ⟨i0, hi, hz0, hzz1, hzz2⟩ := info_parts info_var
 have ht := hS.len
 refine (callsIn_wide (n := 3)).1 (callsIn_of_wp_marks Tryz.func96 rfl trivial (wpIn_wide.2 ?_) rfl)
 simp only [Tryz.ntmps96, List.size_toArray, List.length_cons, List.length_nil, Nat.reduceAdd, Nat.reduceSub, Array.replicate_succ, Array.replicate_zero, List.push_toArray, List.append_toArray, List.nil_append, List.cons_append]
 have HT := Lib.hid hT
 clear hT
 go_wp2_with fail
 have hk1 : Kept w (w.alloc (.cells #[.slice none 0 0] 41)) := (Kept.refl w).alloc _
 have hv1 := Boxed.new w 41 (.slice none 0 0)
 obtain ⟨W1, hW1⟩ : ∃ W1, w.alloc (.cells #[.slice none 0 0] 41) = W1 := ⟨_, rfl⟩
 have hs1 : w.heap.size + 1 ≤ W1.heap.size := by rw [← hW1]; simp
 rw [hW1] at hk1 hv1 ⊢
 have HK1 := Lib.hid hk1
 have HV0 := Lib.hid hv1
 clear hk1 hv1
 refine (line_lineC a c t s _).mono ?_
 rintro e w3 ⟨rfl, hw3⟩
 have hk3 : Kept W1 w3 := by rw [hw3]; exact ((Kept.refl W1).alloc _).alloc _
 have hs3 : W1.heap.size + 1 + 1 ≤ w3.heap.size := by rw [hw3]; simp
 have hb1 : Blk w3 W1.heap.size 22 #[.slice a t.length c] := by rw [hw3]; exact (Blk.new _ _ _).alloc _
 have hb2 : Blk w3 (W1.heap.size + 1) 9 #[.string s] := by
  rw [hw3]
  have := Blk.new (W1.alloc (.cells #[.slice a t.length c] 22)) 9 #[.string s]
  simpa using this
 have HC := Lib.hid (collect_c a c t s W1 w3 W1.heap.size (W1.heap.size + 1) (tab_kept HT.out HK1.out) ht hk3 hb1 hb2 (by omega) (Nat.le_refl _) (by omega))
 clear hk3 hb1 hb2 hw3
 go_wp2_with fail
 refine HC.out.mono ?_
 rintro e w4 ⟨v, rfl, hrow, hk4⟩
 clear HC
 have hcs : ∃ a n c, v = .slice a n c := hrow.2.elim (fun h => ⟨none, 0, 0, h.1⟩) (fun ⟨g, cap, _, h, _⟩ => ⟨_, _, _, h⟩)
 have HR4 := Lib.hid hrow
 have HK4 := Lib.hid hk4
 clear hrow hk4
 obtain ⟨va, vn, vc, hv⟩ := hcs
 subst hv
 go_wp2_with fail
 refine (back_lineC _ w4 ⟨_, _, _, rfl⟩).mono ?_
 rintro e W5 ⟨rfl, hW5⟩
 have hs5 : w4.heap.size + 1 ≤ W5.heap.size := by rw [hW5]; simp
 have h14 := HK4.out.size
 have hk5 : Kept W1 W5 := by rw [hW5]; exact HK4.out.alloc _
 have hb5 : Blk W5 w4.heap.size 192 #[.slice va vn vc] := by rw [hW5]; exact Blk.new _ _ _
 have hr5 : W5.ownsRow (w3.heap.size + 4) 175 1 (.slice va vn vc) (Tab.line t s).length ((Tab.line t s).map (elC a)) := by rw [hW5]; exact HR4.out.alloc _
 have hv5 : Blk W5 w.heap.size 41 #[.slice none 0 0] := Blk.kept (cs := #[.slice none 0 0]) HV0.out hk5
 have HK5 := Lib.hid (HK1.out.trans hk5)
 clear hW5 hk5
 have HB5 := Lib.hid hb5
 have HR5 := Lib.hid hr5
 have HV5 := Lib.hid hv5
 clear hb5 hr5 hv5
 go_wp2_with fail
 have hb5 := HB5.out
 have hr5 := HR5.out
 have hv5 := HV5.out
 refine wpIn_wide.1 (wpIn_range_back (w0 := w) (Bb := w4.heap.size) (base := w3.heap.size + 4) a c t s (· = w.heap.size) rfl HT.out ht hb5 hr5 (fun k e => by subst e; omega) rfl
  (FieI t w.heap.size (W5.heap.size + 2) W5) (fun _ _ _ => False) ?hI (fun _ _ _ _ h _ => h) ⟨⟨_, hv5, World.ownsRow_nil _ _ _ _⟩, Only.refl _ _⟩
  (fun y => { tmps := #[.slice a t.length c, .string s, undef, undef, .slice none 0 0, .pointer (some ⟨w.heap.size, 0, none⟩), undef, elC a y.1, .slice a t.length c, .string s, .func (.func 164) #[] #[.pointer (some ⟨W1.heap.size, 0, none⟩), .pointer (some ⟨W1.heap.size + 1, 0, none⟩)], .slice va vn vc, .func (.func 170) #[] #[.pointer (some ⟨w4.heap.size, 0, none⟩)], .int .i64 y.2, elC a y.1, undef, undef, undef, undef, undef, undef, undef], defers := [] }) ?assign ?body ?done ?stop)
 case hI =>
  rintro pre A B ⟨⟨v, h1, h2⟩, h4⟩ ho
  exact ⟨⟨v, Blk.only (cs := #[v]) h1 ho (by omega), owns_only h2 ho (fun g hg => by omega)⟩, h4.trans' ho fun k hk h => by omega⟩
 case assign =>
  intro l i W K hK
  gi_wp2
  exact hK
 case body =>
  rintro l pre i k b o W hl _ ⟨⟨v, hv, hrow⟩, hO⟩ hsize hpre hi' rfl hcl
  have hKp : Kept w W := HK5.out.onlyS hO (fun k e => by omega)
  have hc := Blk.cell (cs := #[v]) hv 0
  simp at hc
  obtain ⟨_, _, ⟨u, hc0, hu⟩, _⟩ := hcl.kept hKp
  have hL := fldsOf_le hS hpre
  rw [fldsOf_snoc, List.length_append] at hL
  have HL := Lib.hid hL
  have HR := Lib.hid (show W.drew.ownsRow (W5.heap.size + 2) 72 2 v (fldsOf t pre).length ((fldsOf t pre).flatMap vCells) from hrow)
  have HS := Lib.hid (show Src Tryz.prog 2 41 u (Tab.nth t i).fields.length ((Tab.nth t i).fields.flatMap vCells) W.drew from src_vars (vars_kept hu (Kept.refl W).drew))
  have HV := Lib.hid (show Blk W.drew w.heap.size 41 #[v] from hv)
  have HZ := Lib.hid (show W5.heap.size + 2 ≤ W.drew.heap.size from hsize)
  have HO0 := Lib.hid (show Only (fun k => k = w.heap.size ∨ W5.heap.size + 2 ≤ k) W W.drew from (Only.refl _ W).drew)
  have HK := Lib.hid hO
  have HBR := Lib.hid (show w.heap.size < W5.heap.size by omega)
  obtain ⟨ua, un, uc, rfl⟩ : ∃ a n c, u = .slice a n c := by obtain ⟨a, c, e, _⟩ := hu; exact ⟨_, _, _, e⟩
  obtain ⟨va', vn', vc', rfl⟩ := owns_slice hrow
  simp only [elC, evC, Option.map_some]
  clear hv hrow hKp hcl hpre hu hO hb5 hr5 hv5 hL
  gi_wp2
  refine wpIn_region_of_any (by kernel_rfl) (by kernel_rfl) (by rintro ⟨_, _, h⟩; exact h) ?_
  ·change wpAny _ _ _ _ _ _ _ (World.drew _)
   refine tkA 1 ?_
   refine tkA 2 ?_
   refine tkA 3 ?_
   refine rdA [0, 4] ?_
   refine aR (fun K hK => ?_) ?_
   ·go_simp
    refine hK _ _ ?_; clear hK K
    refine rdA [4] ?_
    refine aR (fun K hK => ?_) ?_
    ·go_simp
     refine hK _ _ ?_; clear hK K
     refine rdA [5] ?_
     refine aR (fun K hK => ?_) ?_
     ·refine step_apk rfl (.tmp 15) (.tmp 19) 41 41 rfl (W5.heap.size + 2) 2 72 i0 _ 32 Tryz.underlying41 hi hz0 hzz1 hzz2 rfl rfl HR.out rfl HS.out (by unfold maxLen; have := HL.out; omega) (by have := HL.out; omega) HZ.out ?_
      intro v' w1 hown' hgrow _ _
      have hv1 : Blk w1 w.heap.size 41 #[.slice va' vn' vc'] := HV.out.grownBy hgrow (ne_row_blk HV.out (by decide) HR.out)
      have hc1 := hv1.cell 0
      have hf1 := hv1.frozen 0
      have HO := Lib.hid (app_only HO0.out HR.out hgrow HZ.out)
      have HV1 := Lib.hid hv1
      have HW := Lib.hid hown'
      obtain ⟨av', nv', cv', rfl⟩ := owns_slice hown'
      simp at hc1
      clear hv1 hown' hgrow
      refine hK _ _ ?_; clear hK K
      refine rdA [6] ?_
      refine aR (fun K hK => ?_) ?_
      ·go_simp
       refine hK _ _ ?_; clear hK K
       refine wpAny_done (by kernel_rfl) ?_ _
       exact fie_end (y := (i, k)) HO.out HV1.out HW.out HK.out HBR.out (by omega)
      exact AllReady.nil
     exact AllReady.nil
    exact AllReady.nil
   refine aR (fun K hK => ?_) ?_
   ·go_simp
    refine hK _ _ ?_; clear hK K
    refine rdA [0] ?_
    refine aR (fun K hK => ?_) ?_
    ·go_simp
     refine hK _ _ ?_; clear hK K
     refine rdA [5] ?_
     refine aR (fun K hK => ?_) ?_
     ·refine step_apk rfl (.tmp 15) (.tmp 19) 41 41 rfl (W5.heap.size + 2) 2 72 i0 _ 32 Tryz.underlying41 hi hz0 hzz1 hzz2 rfl rfl HR.out rfl HS.out (by unfold maxLen; have := HL.out; omega) (by have := HL.out; omega) HZ.out ?_
      intro v' w1 hown' hgrow _ _
      have hv1 : Blk w1 w.heap.size 41 #[.slice va' vn' vc'] := HV.out.grownBy hgrow (ne_row_blk HV.out (by decide) HR.out)
      have hc1 := hv1.cell 0
      have hf1 := hv1.frozen 0
      have HO := Lib.hid (app_only HO0.out HR.out hgrow HZ.out)
      have HV1 := Lib.hid hv1
      have HW := Lib.hid hown'
      obtain ⟨av', nv', cv', rfl⟩ := owns_slice hown'
      simp at hc1
      clear hv1 hown' hgrow
      refine hK _ _ ?_; clear hK K
      refine rdA [6] ?_
      refine aR (fun K hK => ?_) ?_
      ·go_simp
       refine hK _ _ ?_; clear hK K
       refine wpAny_done (by kernel_rfl) ?_ _
       exact fie_end (y := (i, k)) HO.out HV1.out HW.out HK.out HBR.out (by omega)
      exact AllReady.nil
     exact AllReady.nil
    exact AllReady.nil
   exact AllReady.nil
 case done =>
  rintro D W hD ⟨⟨v, hv, hrow⟩, hO⟩ hd
  rw [fldsOf_all] at hrow
  have hKp : Kept w W := HK5.out.onlyS hO (fun k e => by omega)
  have HD := Lib.hid hD
  clear hD
  have hc := Blk.cell (cs := #[v]) hv 0
  simp at hc
  have HO := Lib.hid (show Only (· = D) W (W.putObj D (.deferred none)) from Only.putObj (Only.refl (· = D) W) (.inl rfl) _)
  have HR := Lib.hid hrow
  have HK := Lib.hid hKp
  obtain ⟨va', vn', vc', rfl⟩ := owns_slice hrow
  clear hrow hv hO hKp hb5 hr5 hv5
  go_wp2
  refine ⟨by simp, .inl ⟨_, _, rfl, run_takeDeferred hd, ?_⟩⟩
  exact ⟨_, results_tmp rfl _ _ _, _, rfl, owns_base (owns_only HR.out HO.out (by intro g hg e; have := HD.out; omega)) (by omega), HK.out.onlyS HO.out (by intro k e; have := HD.out; omega)⟩
 case stop =>
  rintro D c pre W _ _ h _
  exact h.elim
end Go.Proofs.YtjdkegfckkbpeaaGreatDoor
namespace Go.Proofs.YtjdkegfckkbpeaaGreatDoor
open Go.ChangeShapes Go.WideShapes Go.ChangeAt Go.RowKit Go.Shelf
/-- A copy of a method: its parameters lie in a block of its own. -/
def Copy (w w' : World) (v : Value) (m : Tab.M) : Prop :=
 ∃ p, v = .agg #[.string m.name, p, .string m.res] ∧ w'.ownsRow w.heap.size 72 2 p m.params.length (m.params.flatMap vCells) ∧ Kept w w'
theorem cpy_end {w W1 w1 : World} {m : Tab.M} {p : Value} (hO : Only (fun k => k = w.heap.size ∨ w.heap.size + 1 ≤ k) W1 w1)
  (hV : Blk w1 w.heap.size 47 #[.string ⟨#[]⟩, .slice none 0 0, .string ⟨#[]⟩]) (hW : w1.ownsRow (w.heap.size + 1) 72 2 p (0 + m.params.length) ([] ++ m.params.flatMap vCells)) (hK : Kept w W1) :
  Blk (((w1.setCell ⟨w.heap.size, 0, none⟩ (.string m.name)).setCell ⟨w.heap.size, 1, none⟩ p).setCell ⟨w.heap.size, 2, none⟩ (.string m.res)) w.heap.size 47 #[.string m.name, p, .string m.res] ∧
   Copy w (((w1.setCell ⟨w.heap.size, 0, none⟩ (.string m.name)).setCell ⟨w.heap.size, 1, none⟩ p).setCell ⟨w.heap.size, 2, none⟩ (.string m.res)) (.agg #[.string m.name, p, .string m.res]) m := by
 have hP : Only (· = w.heap.size) w1 (((w1.setCell ⟨w.heap.size, 0, none⟩ (.string m.name)).setCell ⟨w.heap.size, 1, none⟩ p).setCell ⟨w.heap.size, 2, none⟩ (.string m.res)) := (((Only.refl _ w1).put 0 _).put 1 _).put 2 _
 refine ⟨((hV.put 0 _).put 1 _).put 2 _, p, rfl, ?_, ?_⟩
 ·rw [Nat.zero_add, List.nil_append] at hW
  exact owns_base (owns_only hW hP (fun g hg => by omega)) (by omega)
 ·exact (hK.onlyS hO (fun k h => by omega)).onlyS hP (fun k h => by omega)
set_option maxHeartbeats 4000000 in
theorem copied_c (b o : Nat) (m : Tab.M) (w : World) (h : SigAt w b o m) (hp : m.params.length ≤ 1000) :
  Calls Tryz.prog 139 #[.pointer (some ⟨b, o, none⟩)] w fun e w' => ∃ v, e = .returned v ∧ Copy w w' v m := by
 obtain ⟨i0, hi, hz0, hzz1, hzz2⟩ := info_parts info_var
 have HH := Lib.hid h
 clear h
 go_enter Tryz.func139, Tryz.ntmps139
 go_wp2
 obtain ⟨W1, hW1⟩ : ∃ W1, w.alloc (.cells #[.string ⟨#[]⟩, .slice none 0 0, .string ⟨#[]⟩] 47) = W1 := ⟨_, rfl⟩
 have HB := Lib.hid (show Blk W1.drew w.heap.size 47 #[.string ⟨#[]⟩, .slice none 0 0, .string ⟨#[]⟩] by rw [← hW1]; exact Blk.new _ _ _)
 have HK1 := Lib.hid (show Kept w W1.drew by rw [← hW1]; exact ((Kept.refl w).alloc _).drew)
 have HZ := Lib.hid (show w.heap.size + 1 ≤ W1.drew.heap.size by rw [← hW1]; simp)
 rw [hW1]
 clear hW1
 obtain ⟨hc0, ⟨u, hc1, hu⟩, hc2, _⟩ := HH.out.kept HK1.out
 obtain ⟨ua, un, uc, rfl⟩ : ∃ a n c, u = .slice a n c := by obtain ⟨a, c, e, _⟩ := hu; exact ⟨_, _, _, e⟩
 have HS := Lib.hid (src_vars hu)
 simp only [World.cell?_drew] at hc0 hc1 hc2
 clear hu
 go_region_law (refine step_apk rfl (.const (.slice none 0 0)) (.tmp 10) 41 41 rfl (w.heap.size + 1) 2 72 i0 _ 32 Tryz.underlying41 hi hz0 hzz1 hzz2 rfl rfl (World.ownsRow_nil _ _ _ _) rfl HS.out (by unfold maxLen; omega) (by omega) HZ.out ?_; intro v' w1 hown' hgrow _ _; have HO := Lib.hid (app_only (Only.refl (fun k => k = w.heap.size ∨ w.heap.size + 1 ≤ k) W1.drew) (World.ownsRow_nil _ (w.heap.size + 1) 72 2) hgrow HZ.out); have HV := Lib.hid (HB.out.grownBy hgrow (fun h => by cases h)); have HW := Lib.hid hown'; have hb0 := HV.out.cell 0; have hb1 := HV.out.cell 1; have hb2 := HV.out.cell 2; have hf0 := HV.out.frozen 0; have hf1 := HV.out.frozen 1; have hf2 := HV.out.frozen 2; obtain ⟨hd0, ⟨u', hd1, _⟩, hd2, _⟩ := HH.out.kept (HK1.out.onlyS HO.out (fun k h => by omega)); obtain ⟨av', nv', cv', rfl⟩ := owns_slice hown'; simp at hb0 hb1 hb2; clear hgrow hown')
 all_goals
  go_wp2
  have hF := cpy_end HO.out HV.out HW.out HK1.out
  clear hb0 hb1 hb2 hf0 hf1 hf2 hd0 hd1 hd2 hc0 hc1 hc2 HB HS HH
  have e0 := hF.1.cell 0
  have e1 := hF.1.cell 1
  have e2 := hF.1.cell 2
  simp only [List.getElem?_toArray, List.getElem?_cons_zero, List.getElem?_cons_succ] at e0 e1 e2
  have HF := Lib.hid hF.2
  clear hF
  generalize ((w1.setCell ⟨w.heap.size, 0, none⟩ (Value.string m.name)).setCell ⟨w.heap.size, 1, none⟩ (Value.slice av' nv' cv')).setCell ⟨w.heap.size, 2, none⟩ (Value.string m.res) = Wf at e0 e1 e2 HF ⊢
  exact bodyPost_ret (v := .agg #[.string m.name, .slice av' nv' cv', .string m.res]) (by simp [results, Tryz.results139, go_sem, e0, e1, e2]) rfl ⟨_, rfl, HF.out⟩
theorem owns_set {w : World} {base k n g c : Nat} {e : TypeId} {xs : List Value} (h : w.ownsRow base e k (.slice (some ⟨g, 0, none⟩) n c) n xs) {i : Nat} (hi : i < n * k) (u : Value) : (w.setCell ⟨g, i, none⟩ u).ownsRow base e k (.slice (some ⟨g, 0, none⟩) n c) n (xs.set i u) := by
 refine ⟨by rw [List.length_set]; exact h.1, ?_⟩
 rcases h.2 with ⟨h0, _⟩ | ⟨g', cap, cur, hv, h1, h2, h3, h4, h5, h6⟩
 ·cases h0
 ·cases hv
  refine .inr ⟨g, c, cur.setIfInBounds i u, rfl, h1, ?_, h3, h4, by simpa using h5, ?_⟩
  ·simp [World.setCell, Array.getElem?_modify, h2]
  ·rw [Array.toList_setIfInBounds, List.take_set, h6]
theorem flat_set {α : Type} (f : α → List Value) {a b c : Value} {y : α} (hf : ∀ x, (f x).length = 3) (hy : f y = [a, b, c]) : ∀ (l : List α) (k : Nat), k < l.length → (((l.flatMap f).set (k * 3) a).set (k * 3 + 1) b).set (k * 3 + 2) c = (l.set k y).flatMap f
 | [], k, h => by simp at h
 | x :: r, 0, _ => by
  have h3 := hf x
  match hx : f x, h3 with
  | [p, q, s], _ => simp [hx, hy]
 | x :: r, k + 1, h => by
  have h3 := hf x
  have ih := flat_set f hf hy r k (by simpa using h)
  match hx : f x, h3 with
  | [p, q, s], _ =>
   rw [List.set_cons_succ, List.flatMap_cons, List.flatMap_cons, hx, ← ih]
   rw [show (k + 1) * 3 = k * 3 + 1 + 1 + 1 by omega]
   rfl
def mCells (x : Tab.M × Value) : List Value := [.string x.1.name, x.2, .string x.1.res]
theorem mCells_len (x : Tab.M × Value) : (mCells x).length = 3 := rfl
theorem info_sig : (Tryz.prog.info? 47).map (fun i => (i.zero, i.size, i.bytes)) = some (some (.agg #[.string ⟨#[]⟩, .slice none 0 0, .string ⟨#[]⟩]), 3, 56) := by kernel_rfl
/-- Where a method stands. -/
def plF (ms : List (Tab.M × Value)) (s : ByteArray) : Option Value := (Tab.ix Tab.M.name (ms.map Prod.fst) s).map fun k => .agg #[.int .i64 k]
/-- The methods so far. -/
structure MsI (w : World) (n₁ : Nat) (ms : List (Tab.M × Value)) (v : Value) (W : World) : Prop where
 box : Blk W w.heap.size 42 #[v]
 row : W.ownsRow n₁ 47 3 v ms.length (ms.flatMap mCells)
 mbox : Blk W (w.heap.size + 1 + 1) 194 #[.map (some (w.heap.size + 1))]
 map : MapF Tryz.prog 9 (w.heap.size + 1) ms.length (plF ms) W
 rows : ∀ x ∈ ms, W.ownsRow n₁ 72 2 x.2 x.1.params.length (x.1.params.flatMap vCells)
 kept : Kept w W
/-- What the loop may turn ahead of what it makes itself: the list's box, and the map. -/
abbrev MsB (w : World) (k : Nat) : Prop := k = w.heap.size ∨ k = w.heap.size + 1
theorem owns_typed {S : Nat → Prop} {X Y : World} {base k n : Nat} {e : TypeId} {v : Value} {xs : List Value} (h : X.ownsRow base e k v n xs) (ho : Only S X Y) (hs : ∀ g cs fr, S g → X.heap[g]? ≠ some (.cells cs e fr)) : Y.ownsRow base e k v n xs := by
 refine ⟨h.1, ?_⟩
 rcases h.2 with hn | ⟨g, cap, cur, rfl, hb, hgg, rest⟩
 ·exact .inl hn
 ·exact .inr ⟨g, cap, cur, rfl, hb, ho.same hgg (fun h => hs g _ _ h hgg), rest⟩
theorem MsI.keep {w A B : World} {n₁ : Nat} {ms : List (Tab.M × Value)} {v : Value} {S : Nat → Prop} (h : MsI w n₁ ms v A) (ho : Only S A B) (hs : ∀ k, S k → w.heap.size + 3 ≤ k ∧ ¬ n₁ ≤ k) : MsI w n₁ ms v B :=
 ⟨h.box.only ho (fun e => by have := hs _ e; omega), owns_only h.row ho (fun g hg e => (hs _ e).2 hg), h.mbox.only ho (fun e => by have := hs _ e; omega), h.map.only ho (fun e => by have := hs _ e; omega),
  fun x hx => owns_only (h.rows x hx) ho (fun g hg e => (hs _ e).2 hg), h.kept.onlyS ho (fun k e => by have := hs k e; omega)⟩
theorem MsI.of_kept {w A B : World} {n₁ : Nat} {ms : List (Tab.M × Value)} {v : Value} (h : MsI w n₁ ms v A) (k : Kept A B) : MsI w n₁ ms v B := h.keep (S := fun _ => False) (Only.of_kept k) (fun _ h => h.elim)
theorem ix_fst_lt {ms : List (Tab.M × Value)} {s : ByteArray} {k : Nat} (h : Tab.ix Tab.M.name (ms.map Prod.fst) s = some k) : k < ms.length := by
 obtain ⟨h1, _⟩ := Tab.ix_lt h
 simpa using h1
/-- Names: the first place of a name, when the thing there is exchanged for another one of that name. -/
theorem ix_set {l : List Tab.M} {m : Tab.M} {k : Nat} (h : Tab.ix Tab.M.name l m.name = some k) (s : ByteArray) : Tab.ix Tab.M.name (l.set k m) s = Tab.ix Tab.M.name l s := by
 have e : (l.set k m).map Tab.M.name = l.map Tab.M.name := by
  rw [List.map_set]
  obtain ⟨h1, h2⟩ := Tab.ix_lt h
  refine List.ext_getElem? fun j => ?_
  rw [List.getElem?_set]
  split
  ·rename_i hj
   subst hj
   simp [h1, h2]
  ·rfl
 have g : ∀ l : List Tab.M, Tab.ix Tab.M.name l s = (l.map Tab.M.name).findIdx? fun x => decide (x = s) := by
  intro l
  unfold Tab.ix
  rw [List.findIdx?_map]; rfl
 rw [g, g, e]
theorem ix_snoc {l : List Tab.M} {m : Tab.M} (h : Tab.ix Tab.M.name l m.name = none) (s : ByteArray) : Tab.ix Tab.M.name (l ++ [m]) s = if s = m.name then some l.length else Tab.ix Tab.M.name l s := by
 unfold Tab.ix
 rw [List.findIdx?_append]
 by_cases hs : s = m.name
 ·subst hs
  rw [if_pos rfl, show l.findIdx? (fun x => decide (x.name = m.name)) = none from h]
  simp
 ·rw [if_neg hs]
  have : ¬ m.name = s := fun e => hs e.symm
  simp [this]
theorem MsI.blk_row {w X : World} {n₁ : Nat} {ms : List (Tab.M × Value)} {g n c : Nat} (h : MsI w n₁ ms (.slice (some ⟨g, 0, none⟩) n c) X) : n₁ ≤ g ∧ n = ms.length ∧ ∃ cur, X.heap[g]? = some (.cells cur 47 (0, 0)) := by
 rcases h.row.2 with ⟨h0, _⟩ | ⟨g', cap, cur, hv, h1, h2, _⟩
 ·cases h0
 ·cases hv
  exact ⟨h1, rfl, cur, h2⟩
/-- A method more whose name has occurred: it takes that one's place. -/
theorem ms_old {w X : World} {n₁ : Nat} {ms : List (Tab.M × Value)} {g n c k : Nat} {x : Tab.M} {p : Value} (h : MsI w n₁ ms (.slice (some ⟨g, 0, none⟩) n c) X) (hn : w.heap.size + 3 ≤ n₁) (hix : Tab.ix Tab.M.name (ms.map Prod.fst) x.name = some k)
  (hp : X.ownsRow n₁ 72 2 p x.params.length (x.params.flatMap vCells)) :
  MsI w n₁ (ms.set k (x, p)) (.slice (some ⟨g, 0, none⟩) n c) (((X.setCell ⟨g, k * 3, none⟩ (.string x.name)).setCell ⟨g, k * 3 + 1, none⟩ p).setCell ⟨g, k * 3 + 2, none⟩ (.string x.res)) ∧
   Only (fun j => MsB w j ∨ n₁ ≤ j) X (((X.setCell ⟨g, k * 3, none⟩ (.string x.name)).setCell ⟨g, k * 3 + 1, none⟩ p).setCell ⟨g, k * 3 + 2, none⟩ (.string x.res)) := by
 obtain ⟨hg, rfl, cur, hcur⟩ := h.blk_row
 have hk := ix_fst_lt hix
 have hO : Only (· = g) X (((X.setCell ⟨g, k * 3, none⟩ (.string x.name)).setCell ⟨g, k * 3 + 1, none⟩ p).setCell ⟨g, k * 3 + 2, none⟩ (.string x.res)) := (((Only.refl _ X).put _ _).put _ _).put _ _
 have hrow := owns_set (owns_set (owns_set h.row (i := k * 3) (by omega) (.string x.name)) (i := k * 3 + 1) (by omega) p) (i := k * 3 + 2) (by omega) (.string x.res)
 rw [flat_set mCells (y := (x, p)) mCells_len rfl ms k hk] at hrow
 have hty : ∀ {q : Value} {m : Nat} {xs : List Value}, X.ownsRow n₁ 72 2 q m xs → (((X.setCell ⟨g, k * 3, none⟩ (.string x.name)).setCell ⟨g, k * 3 + 1, none⟩ p).setCell ⟨g, k * 3 + 2, none⟩ (.string x.res)).ownsRow n₁ 72 2 q m xs := fun hq =>
  owns_typed hq hO fun g' cs fr e hcs => by
   subst e
   rw [hcur] at hcs
   injection hcs with hcs
   injection hcs with _ h2
   exact absurd h2 (by decide)
 refine ⟨⟨h.box.only hO (by omega), ?_, h.mbox.only hO (by omega), ?_, ?_, h.kept.onlyS hO (fun k e => by omega)⟩, hO.mono fun k _ e => .inr (by omega)⟩
 ·rw [List.length_set]; exact hrow
 ·have hf : plF (ms.set k (x, p)) = plF ms := by
   funext s
   unfold plF
   rw [List.map_set]
   rw [ix_set hix s]
  rw [hf, List.length_set]
  exact h.map.only hO (by omega)
 ·intro y hy
  rcases List.mem_or_eq_of_mem_set hy with hy | rfl
  ·exact hty (h.rows y hy)
  ·exact hty hp
/-- A method more whose name is new. -/
theorem ms_new {w X X1 X2 : World} {n₁ : Nat} {ms : List (Tab.M × Value)} {v v' : Value} {x : Tab.M} {p : Value} {tmp : Obj} (h : MsI w n₁ ms v X) (hn : w.heap.size + 3 ≤ n₁) (hX : n₁ ≤ X.heap.size) (hix : Tab.ix Tab.M.name (ms.map Prod.fst) x.name = none)
  (hp : X.ownsRow n₁ 72 2 p x.params.length (x.params.flatMap vCells))
  (hm1 : MapF Tryz.prog 9 (w.heap.size + 1) (ms.length + 1) (fun s => if s = x.name then some (.agg #[.int .i64 ms.length]) else plF ms s) X1) (hg1 : X.grownBy X1 (some (w.heap.size + 1)))
  (hr2 : X2.ownsRow n₁ 47 3 v' (ms.length + 1) (ms.flatMap mCells ++ [.string x.name, p, .string x.res])) (hg2 : (X1.alloc tmp).grownBy X2 v.ownBlock) :
  MsI w n₁ (ms ++ [(x, p)]) v' (X2.setCell ⟨w.heap.size, 0, none⟩ v') ∧ Only (fun j => MsB w j ∨ n₁ ≤ j) X (X2.setCell ⟨w.heap.size, 0, none⟩ v') := by
 have hO1 : Only (· = w.heap.size + 1) X X1 := (Only.refl _ X).grown hg1 fun k e => .inl (by injection e with e; exact e.symm)
 have hlt := h.map.lt
 have hrow1 : X1.ownsRow n₁ 47 3 v ms.length (ms.flatMap mCells) := owns_only h.row hO1 (fun g hg => by omega)
 have hrow1' : (X1.alloc tmp).ownsRow n₁ 47 3 v ms.length (ms.flatMap mCells) := owns_only (S := fun _ => False) hrow1 ((Only.refl _ X1).alloc tmp) (fun _ _ h => h)
 have hO2 : Only (fun k => v.ownBlock = some k) (X1.alloc tmp) X2 := (Only.refl _ _).grown hg2 fun k e => .inl e
 have hO2' : Only (fun k => v.ownBlock = some k) X1 X2 := ((Only.refl _ X1).alloc tmp).trans hO2
 have hvb : ∀ k, v.ownBlock = some k → n₁ ≤ k ∧ ∃ cur, X1.heap[k]? = some (.cells cur 47 (0, 0)) := by
  intro k hk
  rcases hrow1.2 with ⟨rfl, _⟩ | ⟨g, cap, cur, rfl, hb, hgg, _⟩
  ·simp [Value.ownBlock] at hk
  ·obtain rfl : g = k := by simpa [Value.ownBlock] using hk
   exact ⟨hb, cur, hgg⟩
 have hO3 : Only (· = w.heap.size) X2 (X2.setCell ⟨w.heap.size, 0, none⟩ v') := (Only.refl _ X2).put 0 v'
 have hty : ∀ {q : Value} {m : Nat} {xs : List Value}, X.ownsRow n₁ 72 2 q m xs → (X2.setCell ⟨w.heap.size, 0, none⟩ v').ownsRow n₁ 72 2 q m xs := fun hq =>
  owns_only (owns_typed (owns_only hq hO1 (fun g hg => by omega)) hO2' fun g cs fr e hcs => by
   obtain ⟨_, cur, h2⟩ := hvb g e
   rw [h2] at hcs
   injection hcs with hcs
   injection hcs with _ h3
   exact absurd h3 (by decide)) hO3 (fun g hg => by omega)
 have hall : Only (fun j => MsB w j ∨ n₁ ≤ j) X (X2.setCell ⟨w.heap.size, 0, none⟩ v') :=
  ((hO1.mono fun k _ e => .inl (.inr e)).trans (hO2'.mono fun k _ e => .inr (hvb k e).1)).trans (hO3.mono fun k _ e => .inl (.inl e))
 refine ⟨⟨((h.box.only hO1 (by omega)).only hO2' (fun e => by have := (hvb _ e).1; omega)).put 0 v', ?_, ((h.mbox.only hO1 (by omega)).only hO2' (fun e => by have := (hvb _ e).1; omega)).only hO3 (by omega), ?_, ?_, h.kept.onlyS hall (fun k e => by rcases e with (e | e) | e <;> omega)⟩, hall⟩
 ·rw [List.length_append, List.flatMap_append]
  have := owns_only hr2 hO3 (fun g hg => by omega)
  simpa [mCells] using this
 ·have hf : plF (ms ++ [(x, p)]) = fun s => if s = x.name then some (.agg #[.int .i64 ms.length]) else plF ms s := by
   funext s
   unfold plF
   rw [List.map_append, List.map_cons, List.map_nil, ix_snoc hix s, List.length_map]
   split <;> rfl
  rw [hf, List.length_append]
  exact (hm1.only hO2' (fun e => by have := (hvb _ e).1; omega)).only hO3 (by omega)
 ·intro y hy
  rcases List.mem_append.1 hy with hy | hy
  ·exact hty (h.rows y hy)
  ·simp at hy
   subst hy
   exact hty hp
end Go.Proofs.YtjdkegfckkbpeaaGreatDoor
namespace Go.Proofs.YtjdkegfckkbpeaaGreatDoor
open Go.ChangeShapes Go.WideShapes Go.ChangeAt Go.RowKit Go.Shelf
attribute [local go_sem] Oper.semAt_some
/-- The methods of the classes at some places. -/
def mthsOf (t : List Tab.C) (pre : List (Nat × Nat)) : List Tab.M := pre.flatMap fun y => (Tab.nth t y.1).methods
theorem mthsOf_snoc (t : List Tab.C) (pre : List (Nat × Nat)) (y : Nat × Nat) : mthsOf t (pre ++ [y]) = mthsOf t pre ++ (Tab.nth t y.1).methods := by unfold mthsOf; simp
theorem mthsOf_all (t : List Tab.C) (s : ByteArray) : (mthsOf t (bk (Tab.line t s) 0)).foldl Tab.addM [] = Tab.methods t s := by
 unfold mthsOf Tab.methods
 rw [← bk_fst, List.flatMap_map]
theorem mthsOf_le {t : List Tab.C} (hS : Small t) {s : ByteArray} {pre : List (Nat × Nat)} (h : pre <+: bk (Tab.line t s) 0) : (mthsOf t pre).length ≤ 1001000 := by
 have h1 := flat_le (fun y : Nat × Nat => (Tab.nth t y.1).methods) 1000 pre fun y hy => hS.methods _ (nth_mem (pre_line h y hy))
 have h2 := h.length_le
 have h3 := Tab.line_len t s
 have h4 := hS.len
 rw [bk_len] at h2
 unfold mthsOf
 have : pre.length ≤ 1001 := by omega
 have := Nat.mul_le_mul_right 1000 this
 omega
/-- Within the loop: the methods so far. -/
def MtsI (t : List Tab.C) (w : World) (n₁ : Nat) (w5 : World) (pre : List (Nat × Nat)) (W : World) : Prop :=
 (∃ (ms : List (Tab.M × Value)) (v : Value), MsI w n₁ ms v W ∧ ms.map Prod.fst = (mthsOf t pre).foldl Tab.addM [] ∧ ms.length ≤ (mthsOf t pre).length) ∧ Only (MsB w) w5 W
theorem owns_slice_n {w : World} {base k n : Nat} {e : TypeId} {v : Value} {xs : List Value} (h : w.ownsRow base e k v n xs) : ∃ a c, v = .slice a n c :=
 h.2.elim (fun h => ⟨none, 0, by rw [h.1, h.2]⟩) (fun ⟨g, cap, _, h, _⟩ => ⟨_, _, h⟩)
theorem row_cells {w : World} {base k n c : Nat} {a : Option Addr} {e : TypeId} {xs : List Value} (h : w.ownsRow base e k (.slice a n c) n xs) (hn : 0 < n) :
  ∃ g, a = some ⟨g, 0, none⟩ ∧ (∀ i, i < n * k → ∃ z, w.cell? ⟨g, i, none⟩ = some z) ∧ ∀ i, w.frozen? ⟨g, i, none⟩ = false := by
 rcases h.2 with ⟨h0, h1⟩ | ⟨g, cap, cur, hv, h1, h2, h3, h4, h5, h6⟩
 ·omega
 ·cases hv
  have hb : Blk w g e cur := h2
  refine ⟨g, rfl, fun i hi => ?_, fun i => hb.frozen i⟩
  rw [hb.cell]
  have : n * k ≤ c * k := Nat.mul_le_mul_right k h3
  exact ⟨_, Array.getElem?_eq_getElem (by omega)⟩
theorem cells_new3 (w : World) (t : TypeId) (a b c : Value) : ∀ (j : Nat) (u : Value), [a, b, c][j]? = some u → (w.alloc (.cells #[a, b, c] t)).cell? ((⟨w.heap.size, 0, none⟩ : Addr).add j) = some u := by
 intro j u hu
 rw [addr_plain, (Blk.new w t #[a, b, c]).cell, Nat.zero_add]
 simpa using hu
theorem zero_place (W : World) : (zeroValue 197).run Tryz.prog W = .ok (.agg #[.int .i64 0]) W := by kernel_rfl
set_option maxHeartbeats 4000000 in
theorem methods_c (a : Option Addr) (c : Nat) (t : List Tab.C) (s : ByteArray) (w : World) (hT : TabAt w (.slice a t.length c) t) (hS : Small t) :
  Calls Tryz.prog 97 #[.slice a t.length c, .string s] w fun e w' => ∃ (ms : List (Tab.M × Value)) (v : Value), e = .returned v ∧ ms.map Prod.fst = Tab.methods t s ∧ w'.ownsRow w.heap.size 47 3 v ms.length (ms.flatMap mCells) ∧
   (∀ x ∈ ms, w'.ownsRow w.heap.size 72 2 x.2 x.1.params.length (x.1.params.flatMap vCells)) ∧ ms.length ≤ 1001000 ∧ Kept w w' := by
 obtain ⟨i0, hi, hz0, hzz1, hzz2⟩ := info_parts info_sig
 have ht := hS.len
 have hmm := @run_makeMap Tryz.prog
 refine (callsIn_wide (n := 3)).1 (callsIn_of_wp_marks Tryz.func97 rfl trivial (wpIn_wide.2 ?_) rfl)
 simp only [Tryz.ntmps97, List.size_toArray, List.length_cons, List.length_nil, Nat.reduceAdd, Nat.reduceSub, Array.replicate_succ, Array.replicate_zero, List.push_toArray, List.append_toArray, List.nil_append, List.cons_append]
 have HT := Lib.hid hT
 clear hT
 go_wp2_with fail
 obtain ⟨W1, hW1⟩ : ∃ W1, ((w.alloc (.cells #[.slice none 0 0] 42)).alloc (.map #[] 0)).alloc (.cells #[.map (some (w.heap.size + 1))] 194) = W1 := ⟨_, rfl⟩
 have hI1 : ∀ n₁, MsI w n₁ [] (.slice none 0 0) W1 := by
  intro n₁
  rw [← hW1]
  have h2 := MapF.made (w.alloc (.cells #[.slice none 0 0] 42)) Tryz.prog 9
  have h3 := Blk.new ((w.alloc (.cells #[.slice none 0 0] 42)).alloc (.map #[] 0)) 194 #[.map (some (w.heap.size + 1))]
  simp only [World.size_alloc] at h2 h3
  exact ⟨((Blk.new w _ _).alloc _).alloc _, World.ownsRow_nil _ _ _ _, h3, h2.only ((Only.refl (fun _ => False) _).alloc _) (fun h => h), fun x hx => (by cases hx), (((Kept.refl w).alloc _).alloc _).alloc _⟩
 have hs1 : w.heap.size + 3 ≤ W1.heap.size := by rw [← hW1]; simp
 have HI1 := Lib.hid hI1
 have HK1 := Lib.hid (hI1 0).kept
 rw [hW1]
 clear hW1 hI1
 refine (line_lineC a c t s _).mono ?_
 rintro e w3 ⟨rfl, hw3⟩
 have hk3 : Kept W1 w3 := by rw [hw3]; exact ((Kept.refl W1).alloc _).alloc _
 have hs3 : W1.heap.size + 1 + 1 ≤ w3.heap.size := by rw [hw3]; simp
 have hb1 : Blk w3 W1.heap.size 22 #[.slice a t.length c] := by rw [hw3]; exact (Blk.new _ _ _).alloc _
 have hb2 : Blk w3 (W1.heap.size + 1) 9 #[.string s] := by
  rw [hw3]
  have := Blk.new (W1.alloc (.cells #[.slice a t.length c] 22)) 9 #[.string s]
  simpa using this
 have HC := Lib.hid (collect_c a c t s W1 w3 W1.heap.size (W1.heap.size + 1) (tab_kept HT.out HK1.out) ht hk3 hb1 hb2 (by omega) (Nat.le_refl _) (by omega))
 clear hk3 hb1 hb2 hw3
 go_wp2_with fail
 refine HC.out.mono ?_
 rintro e w4 ⟨v, rfl, hrow, hk4⟩
 clear HC
 have hcs := owns_slice hrow
 have HR4 := Lib.hid hrow
 have HK4 := Lib.hid hk4
 clear hrow hk4
 obtain ⟨va, vn, vc, hv⟩ := hcs
 subst hv
 go_wp2_with fail
 refine (back_lineC _ w4 ⟨_, _, _, rfl⟩).mono ?_
 rintro e W5 ⟨rfl, hW5⟩
 have hs5 : w4.heap.size + 1 ≤ W5.heap.size := by rw [hW5]; simp
 have h14 := HK4.out.size
 have hk5 : Kept W1 W5 := by rw [hW5]; exact HK4.out.alloc _
 have HB5 := Lib.hid (show Blk W5 w4.heap.size 192 #[.slice va vn vc] by rw [hW5]; exact Blk.new _ _ _)
 have HR5 := Lib.hid (show W5.ownsRow (w3.heap.size + 4) 175 1 (.slice va vn vc) (Tab.line t s).length ((Tab.line t s).map (elC a)) by rw [hW5]; exact HR4.out.alloc _)
 have HI5 := Lib.hid (fun n₁ => (HI1.out n₁).of_kept hk5)
 have HK5 := Lib.hid (HK1.out.trans hk5)
 clear hW5 hk5
 go_wp2_with fail
 refine wpIn_wide.1 (wpIn_range_back (w0 := w) (Bb := w4.heap.size) (base := w3.heap.size + 4) a c t s (MsB w) rfl HT.out ht HB5.out HR5.out (fun k e => by omega) rfl
  (MtsI t w (W5.heap.size + 2) W5) (fun _ _ _ => False) ?hI (fun _ _ _ _ h _ => h) ⟨⟨[], _, HI5.out _, rfl, Nat.zero_le _⟩, Only.refl _ _⟩
  (fun y => { tmps := #[.slice a t.length c, .string s, undef, undef, .slice none 0 0, .pointer (some ⟨w.heap.size, 0, none⟩), .pointer (some ⟨w.heap.size + 1 + 1, 0, none⟩), undef, elC a y.1, undef, undef, undef, undef, .map (some (w.heap.size + 1)), .slice a t.length c, .string s, .func (.func 164) #[] #[.pointer (some ⟨W1.heap.size, 0, none⟩), .pointer (some ⟨W1.heap.size + 1, 0, none⟩)], .slice va vn vc, .func (.func 170) #[] #[.pointer (some ⟨w4.heap.size, 0, none⟩)], .int .i64 y.2, elC a y.1, undef, undef, undef, undef, undef, undef, undef, undef, undef, undef, undef, undef, undef, undef, undef, undef, undef, undef, undef, undef, undef, undef, undef, undef, undef, undef, undef, undef, undef, undef, undef, undef, undef, undef, undef, undef, undef, undef, undef, undef], defers := [] }) ?assign ?body ?done ?stop)
 case hI =>
  rintro pre A B ⟨⟨ms, v, h1, h2, h3⟩, h4⟩ ho
  exact ⟨⟨ms, v, h1.keep ho (fun k h => by omega), h2, h3⟩, h4.trans' ho fun k hk h => by omega⟩
 case assign =>
  intro l i W K hK
  gi_wp2
  exact hK
 case body =>
  rintro l pre i k b o W hl _ ⟨⟨ms0, v0, hM0, hf0, hl0⟩, hO0⟩ hsize hpre hi' rfl hcl
  obtain ⟨_, _, _, ⟨u, hcw, hu⟩, _⟩ := hcl
  have hc0 := hM0.kept.cell hcw
  have HCW := Lib.hid hcw
  have hL := mthsOf_le hS hpre
  rw [mthsOf_snoc, List.length_append] at hL
  have HM0 := Lib.hid hM0
  have HF0 := Lib.hid hf0
  have HO0 := Lib.hid hO0
  have HPM := Lib.hid (hS.params _ (nth_mem hi'))
  have hN₁ : w.heap.size + 6 ≤ W5.heap.size + 2 := by omega
  obtain ⟨ua, uc, hue, _, _, hat⟩ := hu
  subst hue
  have HAT := Lib.hid hat
  simp only [elC, evC, Option.map_some]
  clear hcw hpre hat hM0 hf0 hO0
  gi_wp2
  have hSZ := hsize
  clear hsize
  gi_loopw [26] (fun q wr => ∃ (j : Nat) (ms : List (Tab.M × Value)) (v : Value), j ≤ (Tab.nth t i).methods.length ∧ q = .int .i64 j ∧ MsI w (W5.heap.size + 2) ms v wr ∧ ms.map Prod.fst = ((Tab.nth t i).methods.take j).foldl Tab.addM ((mthsOf t pre).foldl Tab.addM []) ∧
    ms.length ≤ (mthsOf t pre).length + j ∧ Only (fun k => MsB w k ∨ W5.heap.size + 2 ≤ k) W wr) (fun q wr => (Tab.nth t i).methods.length - (intOf q).toNat)
  case atStart => exact ⟨0, ms0, v0, Nat.zero_le _, rfl, HM0.out, by rw [HF0.out]; rfl, by omega, Only.refl _ _⟩
  case round =>
   obtain ⟨j, ms, v, hj, rfl, hM, hf, hlen, hO⟩ := hrel
   by_cases hlt : j < (Tab.nth t i).methods.length
   ·have hx : (Tab.nth t i).methods[j]? = some (Tab.nth t i).methods[j] := List.getElem?_eq_getElem hlt
    obtain ⟨ub, uo, e2, hva⟩ := HAT.out _ _ hx
    have hpl := HPM.out _ (List.mem_of_getElem? hx)
    generalize (Tab.nth t i).methods[j] = x at hx hva hpl
    subst e2
    have hltI : (j : Int) < ((Tab.nth t i).methods.length : Int) := by omega
    have hc1 := hM.kept.cell HCW.out
    have HC := Lib.hid (copied_c ub (uo + j * 3) x wr (hva.kept hM.kept) hpl)
    have HX := Lib.hid (show (Tab.nth t i).methods.take (j + 1) = (Tab.nth t i).methods.take j ++ [x] by rw [List.take_add_one, hx]; rfl)
    have HM := Lib.hid hM
    have HF := Lib.hid hf
    have HO := Lib.hid hO
    have HNM := Lib.hid hva.2.2.2.1
    have HLN := Lib.hid hlen
    clear hx hva hpl hM hf hO hc0
    gi_wp2
    refine ⟨trivial, (CallsIn.inRound (W5.heap.size + 1) (callsIn_wide.2 HC.out)).mono ?_⟩
    rintro e w2 ⟨v2, rfl, p, rfl, hrow2, hk2⟩
    have HR2 := Lib.hid hrow2
    have HK2 := Lib.hid hk2
    have HS2 := Lib.hid (show W5.heap.size + 2 ≤ wr.heap.size by have := HO.out.size; omega)
    obtain ⟨pa, pn, pc, rfl⟩ := owns_slice hrow2
    clear hrow2 hk2 HC
    have hkey : keyOf Tryz.prog 9 (.string x.name) = some (.string x.name.data.toList) := WideMaps.keyOf_string_mk Tryz.underlying9 HNM.out
    have hMX := HM.out.of_kept (HK2.out.alloc (.cells #[.string x.name, .slice pa pn pc, .string x.res] 47))
    have hlk := hMX.map.look (t := 194) (e := 197) (Maps.string_keyed Tryz.underlying9) Tryz.underlying194 (zero_place _) x.name hkey
    have hmx := hMX.mbox.cell 0
    simp at hmx
    obtain ⟨g, gc, rfl⟩ := owns_slice_n hMX.row
    have HPX := Lib.hid (owns_base (base' := W5.heap.size + 2) HR2.out HS2.out)
    cases hix : Tab.ix Tab.M.name (ms.map Prod.fst) x.name with
    | some k' =>
     have HI := Lib.hid hix
     rw [show plF ms x.name = some (.agg #[.int .i64 k']) by unfold plF; rw [hix]; rfl] at hlk
     simp only [Option.getD_some, Option.isSome_some] at hlk
     have hM2 := hMX.of_kept ((Kept.refl _).alloc (.cells #[.int .i64 k'] 197))
     have hk' := ix_fst_lt hix
     have hkI : (k' : Int) < (ms.length : Int) := by omega
     obtain ⟨gb, rfl, hcells, hfroz⟩ := row_cells hM2.row (by omega)
     have r0 := hcells (k' * 3) (by omega)
     have r1 := hcells (k' * 3 + 1) (by omega)
     have r2 := hcells (k' * 3 + 2) (by omega)
     have f0 := hfroz (k' * 3)
     have f1 := hfroz (k' * 3 + 1)
     have f2 := hfroz (k' * 3 + 2)
     obtain ⟨z0, r0⟩ := r0
     obtain ⟨z1, r1⟩ := r1
     obtain ⟨z2, r2⟩ := r2
     have hbx := hM2.box.cell 0
     have hpb := (Blk.new (w2.alloc (.cells #[.string x.name, .slice pa pn pc, .string x.res] 47)) 197 #[.int .i64 k']).cell 0
     have hbA := (Blk.new w2 47 #[.string x.name, .slice pa pn pc, .string x.res]).alloc (.cells #[.int .i64 k'] 197)
     have q0 := hbA.cell 0
     have q1 := hbA.cell 1
     have q2 := hbA.cell 2
     simp at hbx hpb q0 q1 q2
     have HE := Lib.hid (ms_old hM2 (by omega) hix (x := x) (owns_only (S := fun _ => False) HPX.out (((Only.refl _ w2).alloc (.cells #[.string x.name, .slice pa pn pc, .string x.res] 47)).alloc (.cells #[.int .i64 k'] 197)) (fun _ _ h => h)))
     clear hMX hix hM2 hbA hcells hfroz hk' hlen hkey
     gi_wp2
     go_roundw
     case rel =>
      have hE := HE.out
      refine ⟨j + 1, _, _, by omega, by go_num, hE.1, ?_, by rw [List.length_set]; have := HLN.out; omega, ?_⟩
      ·rw [HX.out, List.foldl_append, ← HF.out, List.map_set]
       unfold Tab.addM
       simp only [List.foldl_cons, List.foldl_nil, HI.out]
      ·exact (HO.out.trans (Only.of_kept ((HK2.out.alloc _).alloc _))).trans hE.2
     case measure => simp [intOf]; omega
    | none =>
     have HI := Lib.hid hix
     rw [show plF ms x.name = none by unfold plF; rw [hix]; rfl] at hlk
     simp only [Option.getD_none, Option.isSome_none] at hlk
     have hM2 := hMX.of_kept ((Kept.refl _).alloc (.cells #[.int .i64 0] 197))
     obtain ⟨X3, hup, hm3, hg3⟩ := hM2.map.store (t := 194) (e := 197) (Maps.string_keyed Tryz.underlying9) Tryz.underlying194 (by unfold maxLen; omega) x.name (.agg #[.int .i64 ms.length]) hkey
     have hO3 : Only (· = w.heap.size + 1) _ X3 := (Only.refl _ _).grown hg3 fun k e => .inl (by injection e with e; exact e.symm)
     have hbx := hM2.box.cell 0
     have hmx2 := hM2.mbox.cell 0
     have hbA := (Blk.new w2 47 #[.string x.name, .slice pa pn pc, .string x.res]).alloc (.cells #[.int .i64 0] 197)
     have hw2 : w.heap.size + 1 ≠ w2.heap.size := by have := HM.out.map.lt; have := HK2.out.size; omega
     have p0 := hbA.cell 0
     have hbx3 := (hM2.box.only hO3 (by omega)).cell 0
     have hB3 := hM2.box.only hO3 (by omega)
     have hf3 := hB3.frozen 0
     have hbA3 := hbA.only hO3 (fun e => hw2 e.symm)
     have q0 := hbA3.cell 0
     have q1 := hbA3.cell 1
     have q2 := hbA3.cell 2
     simp at hbx hmx2 p0 hbx3 q0 q1 q2
     have hrow3 := owns_only hM2.row hO3 (fun g hg => by omega)
     have hz3 : W5.heap.size + 2 ≤ X3.heap.size := by have := hO3.size; have := HK2.out.size; have := HO.out.size; simp at *; omega
     have HE := Lib.hid (fun (v' : Value) (X4 : World) (tmp : Obj) => ms_new (X2 := X4) (v' := v') (tmp := tmp) hM2 (by omega) (by have := HK2.out.size; have := HO.out.size; simp; omega) hix (x := x) (owns_only (S := fun _ => False) HPX.out (((Only.refl _ w2).alloc (.cells #[.string x.name, .slice pa pn pc, .string x.res] 47)).alloc (.cells #[.int .i64 0] 197)) (fun _ _ h => h)) hm3 hg3)
     have HB3 := Lib.hid hB3
     have HR3 := Lib.hid hrow3
     have HLB := Lib.hid (show ms.length + 1 ≤ 1003000 by omega)
     clear hMX hix hM2 hbA hO3 hm3 hg3 hbA3 hB3 hrow3 hkey hlen hw2
     have hlb := HLB.out
     gi_wp2_with (gi_at_builtin; refine wpListIn_append_own _ rfl _ _ 42 rfl (W5.heap.size + 2) 47 i0 (.agg #[.string ⟨#[]⟩, .slice none 0 0, .string ⟨#[]⟩]) 3 56 Tryz.underlying42 hi hz0 hzz1 hzz2 rfl (by decide) _ _ _ rfl (HR3.out.alloc _) ⟨X3.heap.size, 0, none⟩ 1 1 [.string x.name, .slice pa pn pc, .string x.res] rfl rfl (cells_new3 _ _ _ _ _) (by simp [Value.oneCell']) (by unfold maxLen; omega) (by omega) (by simp; omega) ?_; intro v' w1 hown' hgrow _; have HO1 := Lib.hid hown'; have HG1 := Lib.hid hgrow; obtain ⟨g', cap', rfl⟩ := ownsRow_succ hown'; have hv1 := (HB3.out.alloc (.cells #[.string x.name, .slice pa pn pc, .string x.res] 47)).grownBy hgrow (ne_row_blk (HB3.out.alloc (.cells #[.string x.name, .slice pa pn pc, .string x.res] 47)) (by decide) (HR3.out.alloc _)); have hc1 := hv1.cell 0; have hf1 := hv1.frozen 0; simp at hc1; clear hown' hgrow hv1)
     go_roundw
     case rel =>
      have hE := HE.out _ _ _ HO1.out HG1.out
      refine ⟨j + 1, _, _, by omega, by go_num, hE.1, ?_, by rw [List.length_append]; have := HLN.out; simp; omega, ?_⟩
      ·rw [HX.out, List.foldl_append, ← HF.out, List.map_append]
       unfold Tab.addM
       simp only [List.foldl_cons, List.foldl_nil, HI.out, List.map_cons, List.map_nil]
      ·exact (HO.out.trans (Only.of_kept ((HK2.out.alloc _).alloc _))).trans hE.2
     case measure => simp [intOf]; omega
   ·have hltI : ¬ (j : Int) < ((Tab.nth t i).methods.length : Int) := by omega
    obtain rfl : j = (Tab.nth t i).methods.length := by omega
    have HM := Lib.hid hM
    have HF := Lib.hid hf
    have HO := Lib.hid hO
    have HL := Lib.hid hlen
    clear hM hf hO hc0 hlt hlen
    gi_wp2
    refine ⟨HO.out, ⟨ms, v, HM.out, ?_, ?_⟩, HO0.out.trans' HO.out fun k hk h => h.elim id fun h => by omega⟩
    ·rw [HF.out, List.take_length, mthsOf_snoc, List.foldl_append]
    ·rw [mthsOf_snoc, List.length_append]; exact HL.out
 case done =>
  rintro D W hD ⟨⟨ms, v, hM, hf, hl⟩, hO⟩ hd
  rw [mthsOf_all] at hf
  have hL := mthsOf_le hS (s := s) (List.prefix_refl (bk (Tab.line t s) 0))
  have HD := Lib.hid hD
  clear hD
  have hc := hM.box.cell 0
  simp at hc
  have HO := Lib.hid (show Only (· = D) W (W.putObj D (.deferred none)) from Only.putObj (Only.refl (· = D) W) (.inl rfl) _)
  have HM := Lib.hid hM
  have HF := Lib.hid hf
  have HL := Lib.hid (Nat.le_trans hl hL)
  obtain ⟨va', vc', rfl⟩ := owns_slice_n hM.row
  clear hM hO hf hl hL
  go_wp2
  refine ⟨by simp, .inl ⟨_, _, rfl, run_takeDeferred hd, ?_⟩⟩
  exact ⟨_, results_tmp rfl _ _ _, ms, _, rfl, HF.out, owns_base (owns_only HM.out.row HO.out (by intro g hg e; have := HD.out; omega)) (by omega),
   fun x hx => owns_base (owns_only (HM.out.rows x hx) HO.out (by intro g hg e; have := HD.out; omega)) (by omega), HL.out, HM.out.kept.onlyS HO.out (by intro k e; have := HD.out; omega)⟩
 case stop =>
  rintro D c pre W _ _ h _
  exact h.elim
end Go.Proofs.YtjdkegfckkbpeaaGreatDoor
namespace Go.Proofs.YtjdkegfckkbpeaaGreatDoor
open Go.ChangeShapes Go.WideShapes Go.ChangeAt Go.RowKit Go.Shelf
def bCells (x : ByteArray × Int) : List Value := [.string x.1, .int .i64 x.2]
theorem bCells_len (x : ByteArray × Int) : (bCells x).length = 2 := rfl
theorem info_mem : (Tryz.prog.info? 154).map (fun i => (i.zero, i.size, i.bytes)) = some (some (.agg #[.string ⟨#[]⟩, .int .i64 0]), 2, 24) := by kernel_rfl
theorem src_two (w : World) (x : ByteArray × Int) : Src Tryz.prog 2 150 (.slice (some ⟨w.heap.size, 0, none⟩) 1 1) 1 (bCells x) (w.alloc (.cells #[.string x.1, .int .i64 x.2] 154)) := by
 refine Src.ofSlice _ Tryz.underlying150 ⟨w.heap.size, 0, none⟩ 1 1 (bCells x) rfl ?_ ?_
 ·intro j u hu
  rw [addr_plain, (Blk.new w _ _).cell, Nat.zero_add]
  simpa [bCells] using hu
 ·intro u hu
  simp [bCells] at hu
  rcases hu with rfl | rfl <;> rfl
/-- The members of some fields, and of some methods. -/
def fMem (l : List Tab.V) : List (ByteArray × Int) := l.map fun x => (x.name, (-1 : Int))
def sMem (l : List (Tab.M × Value)) : List (ByteArray × Int) := l.map fun x => (x.1.name, (x.1.params.length : Int))
theorem var_cells {w : World} {base g n c : Nat} {l : List Tab.V} (h : w.ownsRow base 72 2 (.slice (some ⟨g, 0, none⟩) n c) l.length (l.flatMap vCells)) {j : Nat} {x : Tab.V} (hx : l[j]? = some x) : w.cell? ⟨g, j * 2, none⟩ = some (.string x.name) ∧ w.cell? ⟨g, j * 2 + 1, none⟩ = some (.string x.typ) := by
 have c0 := h.cells (g := g) rfl _ _ (flat_at vCells vCells_len l j 0 x hx (by omega))
 have c1 := h.cells (g := g) rfl _ _ (flat_at vCells vCells_len l j 1 x hx (by omega))
 rw [addr_plain] at c0 c1
 exact ⟨by simpa using c0, by simpa using c1⟩
theorem sig_cells {w : World} {base g n c : Nat} {l : List (Tab.M × Value)} (h : w.ownsRow base 47 3 (.slice (some ⟨g, 0, none⟩) n c) l.length (l.flatMap mCells)) {j : Nat} {x : Tab.M × Value} (hx : l[j]? = some x) : w.cell? ⟨g, j * 3, none⟩ = some (.string x.1.name) ∧ w.cell? ⟨g, j * 3 + 1, none⟩ = some x.2 ∧ w.cell? ⟨g, j * 3 + 2, none⟩ = some (.string x.1.res) := by
 have c0 := h.cells (g := g) rfl _ _ (flat_at mCells mCells_len l j 0 x hx (by omega))
 have c1 := h.cells (g := g) rfl _ _ (flat_at mCells mCells_len l j 1 x hx (by omega))
 have c2 := h.cells (g := g) rfl _ _ (flat_at mCells mCells_len l j 2 x hx (by omega))
 rw [addr_plain] at c0 c1 c2
 exact ⟨by simpa using c0, by simpa using c1, by simpa using c2⟩
end Go.Proofs.YtjdkegfckkbpeaaGreatDoor
namespace Go.Proofs.YtjdkegfckkbpeaaGreatDoor.Tab
def numB (s : ByteArray) : Option Int := if s = ⟨#[117, 110, 105, 116]⟩ then some (-6) else if s = ⟨#[115, 116, 114]⟩ then some (-5) else if s = ⟨#[98, 111, 111, 108]⟩ then some (-4) else if s = ⟨#[114, 101, 97, 108]⟩ then some (-3) else if s = ⟨#[105, 110, 116]⟩ then some (-2) else if s = ⟨#[63]⟩ then some (-1) else none
/-- The numbers, when the first j classes have been gone through. -/
def numJ (t : List C) (j : Nat) (s : ByteArray) : Option Int := match ix C.name (t.take j) s with
 | some k => some (k : Int)
 | none => numB s
theorem numB_getD (s : ByteArray) : (numB s).getD 0 = if s = ⟨#[63]⟩ then -1 else if s = ⟨#[105, 110, 116]⟩ then -2 else if s = ⟨#[114, 101, 97, 108]⟩ then -3 else if s = ⟨#[98, 111, 111, 108]⟩ then -4 else if s = ⟨#[115, 116, 114]⟩ then -5 else if s = ⟨#[117, 110, 105, 116]⟩ then -6 else 0 := by
 by_cases h1 : s = ⟨#[63]⟩
 ·subst h1; decide
 ·by_cases h2 : s = ⟨#[105, 110, 116]⟩
  ·subst h2; decide
  ·by_cases h3 : s = ⟨#[114, 101, 97, 108]⟩
   ·subst h3; decide
   ·by_cases h4 : s = ⟨#[98, 111, 111, 108]⟩
    ·subst h4; decide
    ·by_cases h5 : s = ⟨#[115, 116, 114]⟩
     ·subst h5; decide
     ·by_cases h6 : s = ⟨#[117, 110, 105, 116]⟩
      ·subst h6; decide
      ·unfold numB; simp [h1, h2, h3, h4, h5, h6]
theorem numJ_all (t : List C) (s : ByteArray) : (numJ t t.length s).getD 0 = numOf t s := by
 unfold numJ numOf at'
 rw [List.take_length]
 cases ix C.name t s with
 | some k => rfl
 | none => exact numB_getD s
theorem numJ_zero (t : List C) (s : ByteArray) : numJ t 0 s = numB s := by unfold numJ; rfl
theorem ixC_snoc {l : List C} {c : C} (h : ix C.name l c.name = none) (s : ByteArray) : ix C.name (l ++ [c]) s = if s = c.name then some l.length else ix C.name l s := by
 unfold ix
 rw [List.findIdx?_append]
 by_cases hs : s = c.name
 ·subst hs
  rw [if_pos rfl, show l.findIdx? (fun x => decide (x.name = c.name)) = none from h]
  simp
 ·rw [if_neg hs]
  have : ¬ c.name = s := fun e => hs e.symm
  simp [this]
theorem numJ_next {t : List C} (hv : Valid t) {j : Nat} (hj : j < t.length) (s : ByteArray) : numJ t (j + 1) s = if s = (nth t j).name then some (j : Int) else numJ t j s := by
 have hf : ix C.name (t.take j) (nth t j).name = none := ix_none (hv.fresh hj)
 unfold numJ
 rw [List.take_add_one, of_nth hj]
 show (match ix C.name (t.take j ++ [nth t j]) s with | some k => some (k : Int) | none => numB s) = _
 rw [ixC_snoc hf]
 by_cases hs : s = (nth t j).name
 ·rw [if_pos hs, if_pos hs, List.length_take, Nat.min_eq_left (by omega)]
 ·rw [if_neg hs, if_neg hs]
end Go.Proofs.YtjdkegfckkbpeaaGreatDoor.Tab
namespace Go.Proofs.YtjdkegfckkbpeaaGreatDoor
open Go.ChangeShapes Go.WideShapes Go.ChangeAt Go.RowKit Go.Shelf
open Go.Maps (Keyed)
theorem MapF.look1 {P : Program} {k e t : TypeId} {b n : Nat} {f : ByteArray → Option Value} {W : World} (h : MapF P k b n f W) (K : Keyed P k) (ht : P.underlying t = some (.map k e)) {z : Value} (hz : (zeroValue e).run P W = .ok z W) (s : ByteArray) (hkey : keyOf P k (.string s) = some (.string s.data.toList)) :
  (Instr.lookup t (.map (some b)) (.string s) false).run P W = .ok ((f s).getD z) W := by
 obtain ⟨D, h1, h2, h3⟩ := h
 obtain ⟨v, ps, hr, hv⟩ := h1.lookup K ht hz (zd := .held z) (zp := []) rfl hkey
 rw [hr]
 cases e : f s with
 | none =>
  rw [Maps.atKey_of_not_has (by rw [(h3 s).1, e]; rfl)] at hv
  rw [selfElem_inv hv]
  rfl
 | some x =>
  rw [(h3 s).2 x e] at hv
  rw [selfElem_inv hv]
  rfl
theorem wpList_insert_F {P : Program} (w : World) {ops : Array Oper} {rest : List Oper} {o : Oper} {a : Act} {Q : Exit → Act → World → Prop}
  (hg : o.guard = none) (m x v : Operand) (t : TypeId) (hop : o.op = Op.insert t m x v)
  (k e : TypeId) (K : Keyed P k) (ht : P.underlying t = some (.map k e)) (b n : Nat) (f : ByteArray → Option Value)
  (hm : a.eval m = .map (some b)) (hown : MapF P k b n f w) (hn : n < maxLen) (s : ByteArray) (val : Value) (hx : a.eval x = .string s) (hv : a.eval v = val) (hkey : keyOf P k (.string s) = some (.string s.data.toList))
  (hK : ∀ w', MapF P k b (n + 1) (fun y => if y = s then some val else f y) w' → w.grownBy w' (some b) → wpList P ops Q rest (a.put o.dst undef) w') :
  wpList P ops Q (o :: rest) a w := by
 refine wpList_plain hg fun K' hK' => ?_
 obtain ⟨w', hrun, r1, r2⟩ := hown.store K ht hn s val hkey
 unfold Oper.wp
 simp [execOp, hop, hm, hx, hv, hrun, Result.andThen]
 exact hK' _ _ (hK w' r1 r2)
/-- The numbers as a map's elements. -/
def numV (t : List Tab.C) (j : Nat) (s : ByteArray) : Option Value := (Tab.numJ t j s).map (.int .i64 ·)
/-- Block b holds the numbers of a table's types. -/
def NumAt (t : List Tab.C) (b : Nat) (W : World) : Prop := MapF Tryz.prog 9 b (6 + t.length) (numV t t.length) W
theorem zero_int (W : World) : (zeroValue 3).run Tryz.prog W = .ok (.int .i64 0) W := by kernel_rfl
theorem NumAt.only {t : List Tab.C} {b : Nat} {W W' : World} {S : Nat → Prop} (h : NumAt t b W) (ho : Only S W W') (hs : ¬ S b) : NumAt t b W' := MapF.only h ho hs
theorem NumAt.kept {t : List Tab.C} {b : Nat} {W W' : World} (h : NumAt t b W) (k : Kept W W') : NumAt t b W' := h.only (S := fun _ => False) (Only.of_kept k) (fun h => h)
theorem NumAt.look {t : List Tab.C} {b : Nat} {W : World} (h : NumAt t b W) (s : ByteArray) (hs : s.size ≤ maxLen) :
  (Instr.lookup 97 (.map (some b)) (.string s) false).run Tryz.prog W = .ok (.int .i64 (Tab.numOf t s)) W := by
 have hr := MapF.look1 h (t := 97) (e := 3) (Maps.string_keyed Tryz.underlying9) Tryz.underlying97 (zero_int W) s (WideMaps.keyOf_string_mk Tryz.underlying9 hs)
 rw [hr, ← Tab.numJ_all]
 unfold numV
 cases Tab.numJ t t.length s <;> rfl
set_option maxHeartbeats 4000000 in
theorem numbers_c (t : List Tab.C) (a : Option Addr) (c : Nat) (w : World) (hT : TabAt w (.slice a t.length c) t) (hv : Tab.Valid t) (ht : t.length ≤ 1000) :
  Calls Tryz.prog 53 #[.slice a t.length c] w fun e w' => e = .returned (.map (some w.heap.size)) ∧ NumAt t w.heap.size w' ∧ Kept w w' := by
 have law := Maps.string_keyed (P := Tryz.prog) Tryz.underlying9
 have h0 := MapF.made w Tryz.prog 9
 have hmm := @run_makeMap Tryz.prog
 have HT := Lib.hid hT
 have hcm : c ≤ 9223372036854775807 := by
  obtain ⟨_, _, e, _, q, _⟩ := hT
  injection e with _ _ e
  subst e
  unfold maxLen at q; omega
 clear hT
 go_enter Tryz.func53, Tryz.ntmps53
 go_wp2_with (first
  | (refine wpList_insert_F _ rfl _ _ _ 97 rfl 9 3 law Tryz.underlying97 w.heap.size 0 _ rfl h0 (by unfold maxLen; omega) _ _ rfl rfl (WideMaps.keyOf_string_mk Tryz.underlying9 (by unfold maxLen; decide)) ?_; intro w1 h1 g1)
  | (refine wpList_insert_F _ rfl _ _ _ 97 rfl 9 3 law Tryz.underlying97 w.heap.size 1 _ rfl h1 (by unfold maxLen; omega) _ _ rfl rfl (WideMaps.keyOf_string_mk Tryz.underlying9 (by unfold maxLen; decide)) ?_; intro w2 h2 g2)
  | (refine wpList_insert_F _ rfl _ _ _ 97 rfl 9 3 law Tryz.underlying97 w.heap.size 2 _ rfl h2 (by unfold maxLen; omega) _ _ rfl rfl (WideMaps.keyOf_string_mk Tryz.underlying9 (by unfold maxLen; decide)) ?_; intro w3 h3 g3)
  | (refine wpList_insert_F _ rfl _ _ _ 97 rfl 9 3 law Tryz.underlying97 w.heap.size 3 _ rfl h3 (by unfold maxLen; omega) _ _ rfl rfl (WideMaps.keyOf_string_mk Tryz.underlying9 (by unfold maxLen; decide)) ?_; intro w4 h4 g4)
  | (refine wpList_insert_F _ rfl _ _ _ 97 rfl 9 3 law Tryz.underlying97 w.heap.size 4 _ rfl h4 (by unfold maxLen; omega) _ _ rfl rfl (WideMaps.keyOf_string_mk Tryz.underlying9 (by unfold maxLen; decide)) ?_; intro w5 h5 g5)
  | (refine wpList_insert_F _ rfl _ _ _ 97 rfl 9 3 law Tryz.underlying97 w.heap.size 5 _ rfl h5 (by unfold maxLen; omega) _ _ rfl rfl (WideMaps.keyOf_string_mk Tryz.underlying9 (by unfold maxLen; decide)) ?_; intro w6 h6 g6))
 have hk : Kept w w6 := by
  have hb1 := (((Below.refl w.heap.size w).alloc (Nat.le_refl _) (.map #[] 0)).grown g1 (by simp) (fun k e => by cases e; exact Nat.le_refl _))
  have hb2 := hb1.grown g2 hb1.size (fun k e => by cases e; exact Nat.le_refl _)
  have hb3 := hb2.grown g3 hb2.size (fun k e => by cases e; exact Nat.le_refl _)
  have hb4 := hb3.grown g4 hb3.size (fun k e => by cases e; exact Nat.le_refl _)
  have hb5 := hb4.grown g5 hb4.size (fun k e => by cases e; exact Nat.le_refl _)
  have hb6 := hb5.grown g6 hb5.size (fun k e => by cases e; exact Nat.le_refl _)
  exact Kept.of_below hb6
 have hm : MapF Tryz.prog 9 w.heap.size (6 + 0) (numV t 0) w6 := by
  have e : numV t 0 = _ := funext fun s => show numV t 0 s = (if s = ⟨#[117, 110, 105, 116]⟩ then some (.int .i64 (-6)) else if s = ⟨#[115, 116, 114]⟩ then some (.int .i64 (-5)) else if s = ⟨#[98, 111, 111, 108]⟩ then some (.int .i64 (-4)) else if s = ⟨#[114, 101, 97, 108]⟩ then some (.int .i64 (-3)) else if s = ⟨#[105, 110, 116]⟩ then some (.int .i64 (-2)) else if s = ⟨#[63]⟩ then some (.int .i64 (-1)) else none) by
   unfold numV
   rw [Tab.numJ_zero]
   unfold Tab.numB
   repeat' split
   all_goals rfl
  rw [e]
  exact h6
 have HK := Lib.hid hk
 have HM := Lib.hid hm
 clear h0 h1 h2 h3 h4 h5 h6 g1 g2 g3 g4 g5 g6 hk hm law
 go_loopw [9] (fun q wr => ∃ j : Nat, j ≤ t.length ∧ q = .int .i64 j ∧ Kept w wr ∧ MapF Tryz.prog 9 w.heap.size (6 + j) (numV t j) wr) (fun q wr => t.length - (intOf q).toNat)
 case atStart => exact ⟨0, Nat.zero_le _, rfl, HK.out, HM.out⟩
 case round =>
  obtain ⟨j, hj, rfl, hkp, hmp⟩ := hrel
  by_cases hlt : j < t.length
  ·have hltI : (j : Int) < (t.length : Int) := by omega
   obtain ⟨b, o, rfl, hcl⟩ := Row.cellsC (tab_kept HT.out hkp) hlt
   obtain ⟨q0, _, _, _, q1, _⟩ := hcl
   obtain ⟨W', hup, hm', hg'⟩ := hmp.store (t := 97) (e := 3) (Maps.string_keyed Tryz.underlying9) Tryz.underlying97 (by unfold maxLen; omega) (Tab.nth t j).name (.int .i64 j) (WideMaps.keyOf_string_mk Tryz.underlying9 q1)
   have HK2 := Lib.hid (hkp.grown hg' (fun k e => by cases e; exact Nat.le_refl _))
   have HM2 : Hid (MapF Tryz.prog 9 w.heap.size (6 + (j + 1)) (numV t (j + 1)) W') := Lib.hid (by
    have e : numV t (j + 1) = fun s => if s = (Tab.nth t j).name then some (.int .i64 j) else numV t j s := funext fun s => by
     unfold numV
     rw [Tab.numJ_next hv hlt]
     split <;> rfl
    rw [e]; exact hm')
   clear hkp hmp hm' hg' q1
   go_wp2_with fail
   go_roundw
   case rel => exact ⟨j + 1, by omega, by go_num, HK2.out, HM2.out⟩
   case measure => simp [intOf]; omega
  ·have hltI : ¬ (j : Int) < (t.length : Int) := by omega
   obtain rfl : j = t.length := by omega
   have HK2 := Lib.hid hkp
   have HM2 := Lib.hid hmp
   clear hkp hmp
   go_wp2_with fail
   go_ret
   exact ⟨rfl, HM2.out, HK2.out⟩
end Go.Proofs.YtjdkegfckkbpeaaGreatDoor
namespace Go.Proofs.YtjdkegfckkbpeaaGreatDoor.Tab
/-- cmp.Compare of two texts. -/
def cfS (a b : ByteArray) : Int := if lt a b then -1 else if lt b a then 1 else 0
theorem cfS_lt (a b : ByteArray) : decide (cfS a b < 0) = lt a b := by
 unfold cfS
 cases h : lt a b with
 | true => simp
 | false => cases k : lt b a <;> simp
/-- A member, and where its types lie. -/
structure Mq where
 m : Mb Int
 a : Option Addr
 n : Nat
 c : Nat
instance : Inhabited Mq := ⟨⟨default, none, 0, 0⟩⟩
end Go.Proofs.YtjdkegfckkbpeaaGreatDoor.Tab
namespace Go.Proofs.YtjdkegfckkbpeaaGreatDoor
open Go.ChangeShapes Go.WideShapes Go.ChangeAt Go.RowKit
def cCells (x : Tab.Mq) : List Value := [.string x.m.name, .int .i64 x.m.ar, .slice x.a x.n x.c]
theorem cCells_len (x : Tab.Mq) : (cCells x).length = 3 := rfl
theorem cmpS_c (a b : ByteArray) (w : World) :
  Calls Tryz.prog 100 #[.string a, .string b] w fun e w' => e = .returned (.int .i64 (Tab.cfS a b)) ∧ w' = w := by
 have ha : (a.toList == a.toList) = true := beq_self_eq_true _
 have hb : (b.toList == b.toList) = true := beq_self_eq_true _
 cases h : Tab.lt a b with
 | true =>
  have hq : Tab.cfS a b = -1 := by unfold Tab.cfS; simp [h]
  have h' : Op.bytesLess a.toList b.toList = true := h
  rw [hq]
  clear hq h
  go_enter Tryz.func100, Tryz.ntmps100
  go_wp2
  go_ret
  exact ⟨rfl, rfl⟩
 | false =>
  have h' : Op.bytesLess a.toList b.toList = false := h
  cases k : Tab.lt b a with
  | true =>
   have hq : Tab.cfS a b = 1 := by unfold Tab.cfS; simp [h, k]
   have hne : ¬ a = b := by rintro rfl; rw [h] at k; cases k
   have h2 : (a.toList == b.toList) = false := beq_no hne
   rw [hq]
   clear hq h k hne
   go_enter Tryz.func100, Tryz.ntmps100
   go_wp2
   go_ret
   exact ⟨rfl, rfl⟩
  | false =>
   have hq : Tab.cfS a b = 0 := by unfold Tab.cfS; simp [h, k]
   have he : a = b := Tab.lt_total h k
   have h2 : (a.toList == b.toList) = true := beq_yes he
   rw [hq]
   clear hq h k he
   go_enter Tryz.func100, Tryz.ntmps100
   go_wp2
   go_ret
   exact ⟨rfl, rfl⟩
theorem clo_c (x y : Tab.Mq) (w : World) :
  Calls Tryz.prog 120 #[.agg #[.string x.m.name, .int .i64 x.m.ar, .slice x.a x.n x.c], .agg #[.string y.m.name, .int .i64 y.m.ar, .slice y.a y.n y.c]] w fun e w' =>
   e = .returned (.int .i64 (Tab.cfS x.m.name y.m.name)) ∧ ∃ q os', w' = Go.Sort.grow (w.drewN q) os' := by
 have HC := Lib.hid (fun W => cmpS_c x.m.name y.m.name W)
 generalize Tab.cfS x.m.name y.m.name = r at HC ⊢
 go_enter Tryz.func120, Tryz.ntmps120
 go_wp2_with fail
 refine (HC.out _).mono ?_
 rintro e w1 ⟨rfl, rfl⟩
 go_wp2_with fail
 go_ret
 exact ⟨rfl, 0, _, by rw [Go.Sort.alloc_eq_grow, Go.Sort.alloc_eq_grow, Go.Sort.grow_grow]; rfl⟩
end Go.Proofs.YtjdkegfckkbpeaaGreatDoor
namespace Go.Proofs.YtjdkegfckkbpeaaGreatDoor
open Go.ChangeShapes Go.WideShapes Go.ChangeAt Go.RowKit Go.Shelf
/-- A row of one's own; nothing but it has turned since w1. -/
def RR {α : Type} (e : TypeId) (k : Nat) (f : α → List Value) (n₁ : Nat) (w1 : World) (l : List α) (v : Value) (W : World) : Prop :=
 W.ownsRow n₁ e k v l.length (l.flatMap f) ∧ Only (fun g => (n₁ ≤ g ∧ ∃ cs fr, w1.heap[g]? = some (.cells cs e fr)) ∨ w1.heap.size ≤ g) w1 W ∧
  ∀ g, v.ownBlock = some g → (n₁ ≤ g ∧ ∃ cs fr, w1.heap[g]? = some (.cells cs e fr)) ∨ w1.heap.size ≤ g
section
variable {α : Type} {e : TypeId} {k : Nat} {f : α → List Value} {n₁ : Nat} {w1 W X w2 : World} {l : List α} {v v' : Value}
theorem RR.next {x : α} (h : RR e k f n₁ w1 l v W) (hk : Kept W X)
  (hr : w2.ownsRow n₁ e k v' (l.length + 1) (l.flatMap f ++ f x)) (hg : X.grownBy w2 v.ownBlock) (hl : v'.ownBlock = v.ownBlock ∨ v'.ownBlock = some X.heap.size) : RR e k f n₁ w1 (l ++ [x]) v' w2 := by
 refine ⟨by rw [List.length_append, List.flatMap_append]; simpa using hr, (h.2.1.trans (Only.of_kept hk)).grown hg fun k e => .inl (h.2.2 k e), fun g e => ?_⟩
 rcases hl with hl | hl
 ·exact h.2.2 g (by rw [← hl]; exact e)
 ·rw [hl] at e
  injection e with e
  have := h.2.1.size
  have := hk.size
  exact .inr (by omega)
theorem RR.keep (h : RR e k f n₁ w1 l v W) (hk : Kept W X) : RR e k f n₁ w1 l v X :=
 ⟨owns_only (S := fun _ => False) h.1 (Only.of_kept hk) (fun _ _ h => h), h.2.1.trans (Only.of_kept hk), h.2.2⟩
theorem RR.from (h : RR e k f n₁ w1 l v W) : RR e k f n₁ W l v W := by
 refine ⟨h.1, Only.refl _ _, fun g e => .inl ?_⟩
 rcases h.1.2 with ⟨rfl, _⟩ | ⟨g', cap, cur, rfl, hb, hh, _⟩
 ·simp [Value.ownBlock] at e
 ·obtain rfl : g' = g := by simpa [Value.ownBlock] using e
  exact ⟨hb, _, _, hh⟩
theorem RR.other (h : RR e k f n₁ w1 l v W) {base k' n : Nat} {e' : TypeId} {u : Value} {xs : List Value} (he : e' ≠ e) (hr : w1.ownsRow base e' k' u n xs) : W.ownsRow base e' k' u n xs := by
 refine ⟨hr.1, ?_⟩
 rcases hr.2 with hn | ⟨g, cap, cur, rfl, hb, hgg, rest⟩
 ·exact .inl hn
 ·refine .inr ⟨g, cap, cur, rfl, hb, h.2.1.same hgg ?_, rest⟩
  rintro (⟨_, cs, fr, hc⟩ | hl)
  ·rw [hgg] at hc
   injection hc with hc
   injection hc with _ h2
   exact he h2
  ·have := (Array.getElem?_eq_some_iff.1 hgg).1
   omega
theorem RR.kept {w : World} (h : RR e k f n₁ w1 l v W) (hk : Kept w w1) (hn : w.heap.size ≤ n₁) : Kept w W :=
 hk.onlyS h.2.1 fun k e => by
  have := hk.size
  rcases e with ⟨e, _⟩ | e <;> omega
theorem RR.start (e : TypeId) (k : Nat) (f : α → List Value) (n₁ : Nat) (w1 : World) : RR e k f n₁ w1 [] (.slice none 0 0) w1 := ⟨World.ownsRow_nil _ _ _ _, Only.refl _ _, fun g e => by simp [Value.ownBlock] at e⟩
/-- A row of another type, when the row has grown. -/
theorem row_grown {base k' n m : Nat} {e' : TypeId} {u : Value} {xs ys : List Value} (hr : X.ownsRow base e' k' u n xs) (ho : X.ownsRow n₁ e k v m ys) (he : e' ≠ e) (hg : X.grownBy w2 v.ownBlock) : w2.ownsRow base e' k' u n xs := by
 refine owns_typed (S := fun g => v.ownBlock = some g) hr ((Only.refl _ X).grown hg fun k e => .inl e) fun g cs fr hs hc => ?_
 rcases ho.2 with ⟨rfl, _⟩ | ⟨g', cap, cur, rfl, hb, hh, _⟩
 ·simp [Value.ownBlock] at hs
 ·obtain rfl : g' = g := by simpa [Value.ownBlock] using hs
  rw [hh] at hc
  injection hc with hc
  injection hc with _ h2
  exact he h2.symm
end
def iCells (n : Int) : List Value := [.int .i64 n]
theorem iCells_len (n : Int) : (iCells n).length = 1 := rfl
/-- The types of a member. -/
def TyAt (n₁ : Nat) (W : World) (x : Tab.Mq) : Prop := W.ownsRow n₁ 3 1 (.slice x.a x.n x.c) x.m.types.length (x.m.types.flatMap iCells)
/-- The members so far, and their types. -/
def ShR (n₁ : Nat) (w1 : World) (l : List Tab.Mq) (v : Value) (W : World) : Prop := RR 170 3 cCells n₁ w1 l v W ∧ ∀ x ∈ l, TyAt n₁ W x
theorem ShR.start (n₁ : Nat) (w1 : World) : ShR n₁ w1 [] (.slice none 0 0) w1 := ⟨RR.start _ _ _ _ _, fun x h => by cases h⟩
theorem ShR.keep {n₁ : Nat} {w1 W X : World} {l : List Tab.Mq} {v : Value} (h : ShR n₁ w1 l v W) (hk : Kept W X) : ShR n₁ w1 l v X :=
 ⟨h.1.keep hk, fun x hx => owns_only (S := fun _ => False) (h.2 x hx) (Only.of_kept hk) (fun _ _ h => h)⟩
theorem ShR.from {n₁ : Nat} {w1 W : World} {l : List Tab.Mq} {v : Value} (h : ShR n₁ w1 l v W) : ShR n₁ W l v W := ⟨h.1.from, h.2⟩
theorem ShR.next {n₁ : Nat} {w1 X w2 : World} {l : List Tab.Mq} {v v' : Value} {x : Tab.Mq} (h : ShR n₁ w1 l v X) (hx : TyAt n₁ X x)
  (hr : w2.ownsRow n₁ 170 3 v' (l.length + 1) (l.flatMap cCells ++ cCells x)) (hg : X.grownBy w2 v.ownBlock) (hl : v'.ownBlock = v.ownBlock ∨ v'.ownBlock = some X.heap.size) : ShR n₁ w1 (l ++ [x]) v' w2 := by
 refine ⟨h.1.next (Kept.refl _) hr hg hl, fun y hy => ?_⟩
 rcases List.mem_append.1 hy with hy | hy
 ·exact row_grown (h.2 y hy) h.1.1 (by decide) hg
 ·simp at hy
  subst hy
  exact row_grown hx h.1.1 (by decide) hg
theorem info_mbr : (Tryz.prog.info? 170).map (fun i => (i.zero, i.size, i.bytes)) = some (some (.agg #[.string ⟨#[]⟩, .int .i64 0, .slice none 0 0]), 3, 48) := by kernel_rfl
theorem info_int : (Tryz.prog.info? 3).map (fun i => (i.zero, i.size, i.bytes)) = some (some (.int .i64 0), 1, 8) := by kernel_rfl
theorem src_mbr (w : World) (x : Tab.Mq) : Src Tryz.prog 3 120 (.slice (some ⟨w.heap.size, 0, none⟩) 1 1) 1 (cCells x) (w.alloc (.cells #[.string x.m.name, .int .i64 x.m.ar, .slice x.a x.n x.c] 170)) := by
 refine Src.ofSlice _ Tryz.underlying120 ⟨w.heap.size, 0, none⟩ 1 1 (cCells x) rfl ?_ ?_
 ·intro j u hu
  rw [addr_plain, (Blk.new w _ _).cell, Nat.zero_add]
  simpa [cCells] using hu
 ·intro u hu
  simp [cCells] at hu
  rcases hu with rfl | rfl | rfl <;> rfl
theorem src_int (w : World) (n : Int) : Src Tryz.prog 1 168 (.slice (some ⟨w.heap.size, 0, none⟩) 1 1) 1 (iCells n) (w.alloc (.cells #[.int .i64 n] 3)) := by
 refine Src.ofSlice _ Tryz.underlying168 ⟨w.heap.size, 0, none⟩ 1 1 (iCells n) rfl ?_ ?_
 ·intro j u hu
  rw [addr_plain, (Blk.new w _ _).cell, Nat.zero_add]
  simpa [iCells] using hu
 ·intro u hu
  simp [iCells] at hu
  subst hu; rfl
/-- One type of one's own. -/
theorem ty_one (w : World) (n₁ : Nat) (hn : n₁ ≤ w.heap.size) (nm : ByteArray) (ar n : Int) : TyAt n₁ (w.alloc (.cells #[.int .i64 n] 3)) ⟨⟨nm, ar, [n]⟩, some ⟨w.heap.size, 0, none⟩, 1, 1⟩ := by
 refine ⟨rfl, .inr ⟨w.heap.size, 1, _, rfl, hn, heap_alloc_new w _, Nat.le_refl _, by unfold maxLen; omega, rfl, rfl⟩⟩
end Go.Proofs.YtjdkegfckkbpeaaGreatDoor
namespace Go.Proofs.YtjdkegfckkbpeaaGreatDoor
open Go.ChangeShapes Go.WideShapes Go.ChangeAt Go.RowKit
open Go.Maps (Keyed)
abbrev pv (p : Tab.P2) : Value := .agg #[.string p.1, .string p.2]
def kl (p : Tab.P2) : Lit := .string (keyBytes [.string p.1.data.toList, .string p.2.data.toList])
def Fine (p : Tab.P2) : Prop := p.1.size ≤ maxLen ∧ p.2.size ≤ maxLen
theorem pair_laid : laidOutB Tryz.prog = true := by kernel_rfl
theorem pair_row : (81 : TypeId) < Tryz.prog.types.size := of_decide_eq_true (by kernel_rfl)
theorem pair_wide : (match Tryz.prog.underlying 81 with | some (.array _ _) | some (.struct _) => true | _ => false) = true := by kernel_rfl
theorem pair_law : Keyed Tryz.prog 81 := Keyed.of_law (deep_law_laid pair_laid (m := 2) (by omega) pair_row (by kernel_rfl) pair_wide)
theorem pair_keyType : Tryz.prog.keyType 81 = true := by kernel_rfl
theorem pair_cells : Tryz.prog.cellsOf 81 = 2 := by kernel_rfl
theorem keyOf_shape (v : Value) : keyOf Tryz.prog 81 v = if Tryz.prog.keyType 81 && v.formed Tryz.prog 81 then (Tryz.prog.keyLits (Tryz.prog.types.size + 1) 81 v.cells.toList).map fun ls => .string (keyBytes ls) else none := by
 unfold keyOf
 rw [Tryz.underlying81]
theorem pair_lits (d : Nat) (cs : List Value) : Tryz.prog.keyLits (d + 2) 81 cs = match cs with
  | [.string a, .string b] => if a.size ≤ maxLen ∧ b.size ≤ maxLen then some [.string a.data.toList, .string b.data.toList] else none
  | _ => none := by
 have hs : ∀ (d : Nat) (cs : List Value), Tryz.prog.keyLits (d + 1) 9 cs = match cs with | [.string s] => if s.size ≤ maxLen then some [.string s.data.toList] else none | _ => none := by
  intro d cs
  unfold Program.keyLits
  rw [Tryz.underlying9]
  split <;> simp_all
 unfold Program.keyLits
 rw [Tryz.underlying81]
 simp only [pair_cells]
 match cs with
 | [] => simp
 | [a] => simp
 | a :: b :: c :: r => simp
 | [a, b] =>
  have c1 : Tryz.prog.cellsOf 9 = 1 := by kernel_rfl
  simp [c1, hs]
  cases a <;> cases b <;> simp
  rename_i x y
  by_cases h1 : x.size ≤ maxLen <;> by_cases h2 : y.size ≤ maxLen <;> simp [h1, h2]
theorem types_big : ∃ d, Tryz.prog.types.size + 1 = d + 2 := ⟨Tryz.prog.types.size - 1, by have h : 81 < Tryz.prog.types.size := pair_row; omega⟩
theorem keyOf_pair {p : Tab.P2} (h : Fine p) : keyOf Tryz.prog 81 (pv p) = some (kl p) := by
 rw [keyOf_shape]
 obtain ⟨d, hd⟩ := types_big
 rw [hd, pair_lits, pair_keyType, show (pv p).formed Tryz.prog 81 = true by simp [Value.formed, Tryz.underlying81, pair_cells]]
 have : (pv p).cells.toList = [.string p.1, .string p.2] := by simp [Value.cells]
 rw [this]
 simp only [h.1, h.2, and_self, if_true, Bool.and_self, Option.map_some]
 rfl
theorem keyOf_inv {v : Value} {l : Lit} (h : keyOf Tryz.prog 81 v = some l) : ∃ p, v = pv p ∧ Fine p := by
 rw [keyOf_shape] at h
 obtain ⟨d, hd⟩ := types_big
 rw [hd, pair_lits, pair_keyType] at h
 simp only [Bool.true_and] at h
 split at h
 ·rename_i hf
  cases v <;> simp [Value.formed, Tryz.underlying81] at hf
  rename_i cs
  have hc : (Value.agg cs).cells.toList = cs.toList := by simp [Value.cells]
  rw [hc] at h
  obtain ⟨cs⟩ := cs
  simp only at h
  split at h
  ·rename_i a b
   split at h
   ·rename_i hs
    exact ⟨(a, b), rfl, hs⟩
   ·cases h
  ·cases h
 ·cases h
theorem kl_inj {p q : Tab.P2} (hp : Fine p) (hq : Fine q) (e : kl p = kl q) : p = q := by
 have := pair_law.inj (keyOf_pair hp) ((keyOf_pair hq).trans (by rw [e]))
 simp at this
 exact Prod.ext this.1 this.2
theorem kl_isKey {p : Tab.P2} : WideAt.IsKeyLit (kl p) := trivial
/-- Block b holds a map whose keys are D, of which g tells the elements. -/
def MapP (b n : Nat) (D : List Tab.P2) (g : Tab.P2 → Value) (W : World) : Prop :=
 ∃ d : DataW Value, W.ownsMap Tryz.prog 81 selfElem b n d ∧ Maps.size d = D.length ∧ D.Nodup ∧ (∀ p ∈ D, Fine p) ∧ (∀ p, Fine p → Maps.has d (kl p) = Tab.inP D p) ∧ ∀ p ∈ D, ∀ z, d.atKey (kl p) z = .held (g p)
section
variable {b n : Nat} {D : List Tab.P2} {g : Tab.P2 → Value} {W : World}
theorem MapP.made (W : World) (g : Tab.P2 → Value) : MapP W.heap.size 0 [] g (W.alloc (.map #[] 0)) :=
 ⟨.map [], World.ownsMap_made W _ _ selfElem, rfl, List.nodup_nil, fun p h => (by cases h), fun p _ => rfl, fun p h => (by cases h)⟩
theorem MapP.lt (h : MapP b n D g W) : b < W.heap.size := by obtain ⟨d, h1, _⟩ := h; exact h1.lt
theorem MapP.nodup (h : MapP b n D g W) : D.Nodup := by obtain ⟨_, _, _, h, _⟩ := h; exact h
theorem MapP.fine (h : MapP b n D g W) : ∀ p ∈ D, Fine p := by obtain ⟨_, _, _, _, h, _⟩ := h; exact h
theorem MapP.only {S : Nat → Prop} {W' : World} (h : MapP b n D g W) (ho : Only S W W') (hs : ¬ S b) : MapP b n D g W' := by
 obtain ⟨d, ⟨es, clock, hb, rest⟩, h2⟩ := h
 exact ⟨d, ⟨es, clock, (ho.block b (Array.getElem?_eq_some_iff.1 hb).1 hs).trans hb, rest⟩, h2⟩
theorem MapP.kept {W' : World} (h : MapP b n D g W) (k : Kept W W') : MapP b n D g W' := h.only (S := fun _ => False) (Only.of_kept k) (fun h => h)
theorem MapP.look {e t : TypeId} (h : MapP b n D g W) (ht : Tryz.prog.underlying t = some (.map 81 e)) {z : Value} (hz : (zeroValue e).run Tryz.prog W = .ok z W) {p : Tab.P2} (hp : Fine p) :
  (Instr.lookup t (.map (some b)) (pv p) true).run Tryz.prog W = .ok (.tuple #[if Tab.inP D p then g p else z, .bool (Tab.inP D p)]) W := by
 obtain ⟨d, h1, _, _, _, h5, h6⟩ := h
 obtain ⟨v, ps, hr, hv⟩ := h1.look_ok pair_law ht hz (zd := .held z) (zp := []) rfl (keyOf_pair hp)
 rw [hr, h5 p hp]
 cases e : Tab.inP D p with
 | false =>
  rw [Maps.atKey_of_not_has (by rw [h5 p hp, e])] at hv
  rw [selfElem_inv hv]
  rfl
 | true =>
  rw [h6 p (Tab.inP_iff.1 e)] at hv
  rw [selfElem_inv hv]
  rfl
theorem MapP.look1 {e t : TypeId} (h : MapP b n D g W) (ht : Tryz.prog.underlying t = some (.map 81 e)) {z : Value} (hz : (zeroValue e).run Tryz.prog W = .ok z W) {p : Tab.P2} (hp : Fine p) :
  (Instr.lookup t (.map (some b)) (pv p) false).run Tryz.prog W = .ok (if Tab.inP D p then g p else z) W := by
 obtain ⟨d, h1, _, _, _, h5, h6⟩ := h
 obtain ⟨v, ps, hr, hv⟩ := h1.lookup pair_law ht hz (zd := .held z) (zp := []) rfl (keyOf_pair hp)
 rw [hr]
 cases e : Tab.inP D p with
 | false =>
  rw [Maps.atKey_of_not_has (by rw [h5 p hp, e])] at hv
  rw [selfElem_inv hv]
  rfl
 | true =>
  rw [h6 p (Tab.inP_iff.1 e)] at hv
  rw [selfElem_inv hv]
  rfl
theorem MapP.len {e t : TypeId} (h : MapP b n D g W) (ht : Tryz.prog.underlying t = some (.map 81 e)) (ty : TypeId) : (Builtin.len_ #[t] ty #[.map (some b)]).run Tryz.prog W = .ok (.int .i64 D.length) W := by
 obtain ⟨d, h1, h2, _⟩ := h
 rw [h1.len ht ty, h2]
theorem MapP.store {e t : TypeId} (h : MapP b n D g W) (ht : Tryz.prog.underlying t = some (.map 81 e)) (hn : n < maxLen) {p : Tab.P2} (hp : Fine p) (hd : Tab.inP D p = false) (v : Value) :
  ∃ W', (Instr.mapUpdate t (.map (some b)) (pv p) v).run Tryz.prog W = .ok () W' ∧ MapP b (n + 1) (D ++ [p]) (fun q => if q = p then v else g q) W' ∧ W.grownBy W' (some b) := by
 obtain ⟨d, h1, h2, h3, h4, h5, h6⟩ := h
 have hnd : ¬ p ∈ D := Tab.inP_no.1 hd
 obtain ⟨W', hr, ho, hg⟩ := h1.update pair_law ht hn (keyOf_pair hp) (show selfElem v = some (.held v, []) from rfl)
 refine ⟨W', hr, ⟨_, ho, ?_, ?_, ?_, ?_, ?_⟩, hg⟩
 ·rw [Maps.size_put (h1.tidy pair_law), h5 p hp, hd, h2]
  simp
 ·rw [List.nodup_append]
  refine ⟨h3, by simp, fun x hx y hy e => ?_⟩
  simp at hy
  subst hy
  exact hnd (e ▸ hx)
 ·intro q hq
  rcases List.mem_append.1 hq with hq | hq
  ·exact h4 q hq
  ·simp at hq; subst hq; exact hp
 ·intro q hq
  by_cases e : q = p
  ·subst e
   rw [Maps.has_put_same h1.isMap kl_isKey]
   exact (Tab.inP_iff.2 (by simp)).symm
  ·rw [Maps.has_put_other (fun h => e (kl_inj hq hp h)), h5 q hq]
   unfold Tab.inP
   have : ¬ p = q := fun h => e h.symm
   simp [this]
 ·intro q hq z
  by_cases e : q = p
  ·subst e
   rw [Maps.atKey_put_same h1.isMap kl_isKey]
   simp
  ·rcases List.mem_append.1 hq with hq | hq
   ·rw [Maps.atKey_put_other (fun h => e (kl_inj (h4 q hq) hp h)), h6 q hq]
    simp [e]
   ·simp at hq; exact absurd hq e
theorem MapP.drop {e t : TypeId} (h : MapP b n D g W) (ht : Tryz.prog.underlying t = some (.map 81 e)) {p : Tab.P2} (hp : Fine p) (ty : TypeId) :
  ∃ W', (Builtin.delete_ #[t, 81] ty #[.map (some b), pv p]).run Tryz.prog W = .ok (.tuple #[]) W' ∧ MapP b n (Tab.offP D p) g W' ∧ W.grownBy W' (some b) := by
 obtain ⟨d, h1, h2, h3, h4, h5, h6⟩ := h
 obtain ⟨W', hr, ho, hg⟩ := h1.drop pair_law ht (keyOf_pair hp) ty
 refine ⟨W', hr, ⟨_, ho, ?_, Tab.offP_nodup h3, fun q hq => h4 q (Tab.mem_offP.1 hq).1, ?_, ?_⟩, hg.grown⟩
 ·have hs := Maps.size_del (k := kl p) (h1.tidy pair_law)
  rw [h5 p hp, h2] at hs
  cases hd : Tab.inP D p with
  | false =>
   rw [hd] at hs
   rw [Tab.offP_no (Tab.inP_no.1 hd)]
   simpa using hs
  | true =>
   rw [hd] at hs
   have := Tab.offP_len h3 (Tab.inP_iff.1 hd)
   simp at hs
   omega
 ·intro q hq
  by_cases e : q = p
  ·subst e
   rw [Maps.has_del_same]
   exact (Tab.inP_no.2 fun h => (Tab.mem_offP.1 h).2 rfl).symm
  ·rw [Maps.has_del_other (fun h => e (kl_inj hq hp h)), h5 q hq, Bool.eq_iff_iff, Tab.inP_iff, Tab.inP_iff, Tab.mem_offP]
   exact ⟨fun h => ⟨h, e⟩, fun h => h.1⟩
 ·intro q hq z
  obtain ⟨hq, e⟩ := Tab.mem_offP.1 hq
  rw [Maps.atKey_del_other (fun h => e (kl_inj (h4 q hq) hp h)), h6 q hq]
end
end Go.Proofs.YtjdkegfckkbpeaaGreatDoor
