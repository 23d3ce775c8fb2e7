/- A range over a class's line: the law for whatever body. -/
import Derived.Test.YtnjgagbblkjjeaaGreatDoorLin
import Derived.Test.YtnjgagbblkjjeaaGreatDoorRes
set_option linter.unusedSimpArgs false
set_option linter.unusedVariables false
set_option maxRecDepth 100000
namespace Go.Proofs.YtnjgagbblkjjeaaGreatDoor
open Go.RowKit Go.Shelf
attribute [local go_sem] Oper.semAt_some

theorem addr_plain (b o j : Nat) : (⟨b, o, none⟩ : Addr).add j = ⟨b, o + j, none⟩ := by
  unfold Addr.add
  split
  · rename_i h; rw [h]; rfl
  · rfl

theorem owns_only {S : Nat → Prop} {w w' : World} {base : Nat} {e : TypeId} {size : Nat} {v : Value} {n : Nat} {xs : List Value} (h : w.ownsRow base e size v n xs) (k : Only S w w') (hs : ∀ g, base ≤ g → ¬ S g) : w'.ownsRow base e size v n xs := by
  refine ⟨h.1, ?_⟩
  rcases h.2 with hn | ⟨g, cap, cur, rfl, hb, hgg, rest⟩
  · exact .inl hn
  · exact .inr ⟨g, cap, cur, rfl, hb, k.same hgg (hs g hb), rest⟩

theorem owns_slice {w : World} {base k n : Nat} {e : TypeId} {v : Value} {xs : List Value} (h : w.ownsRow base e k v n xs) : ∃ a m c, v = .slice a m c :=
  h.2.elim (fun h => ⟨none, 0, 0, h.1⟩) (fun ⟨g, cap, _, h, _⟩ => ⟨_, _, _, h⟩)
theorem owns_base {w : World} {base base' k n : Nat} {e : TypeId} {v : Value} {xs : List Value} (h : w.ownsRow base e k v n xs) (hb : base' ≤ base) : w.ownsRow base' e k v n xs :=
  ⟨h.1, h.2.imp id fun ⟨g, cap, cur, h1, h2, h3⟩ => ⟨g, cap, cur, h1, Nat.le_trans hb h2, h3⟩⟩

theorem wpIn_range_line {g : Operand} {ps : Array Tmp} {assign body : Code} {Q : Exit → Act → World → Prop} {av : Act} {w w0 : World} {bt bn : Nat} (a : Option Addr) (c : Nat) (t : List Tab.C) (s : ByteArray) (B : Nat → Prop)
    (hg : av.eval g = .func (.func 137) #[] #[.pointer (some ⟨bt, 0, none⟩), .pointer (some ⟨bn, 0, none⟩)])
    (hT : TabAt w0 (.slice a t.length c) t) (ht : t.length ≤ 1000) (hk : Kept w0 w) (hbt : Blk w bt 22 #[.slice a t.length c]) (hbn : Blk w bn 9 #[.string s])
    (hne : bt ≠ bn) (h1 : w0.heap.size ≤ bt) (h2 : w0.heap.size ≤ bn) (hB : ∀ k, B k → w0.heap.size ≤ k ∧ k < w.heap.size ∧ k ≠ bt ∧ k ≠ bn) (hps : ps.size = 1)
    (I : List Nat → World → Prop) (Ix : Code → List Nat → World → Prop)
    (hI : ∀ s A B, I s A → Only (fun k => k = bn ∨ (w.heap.size ≤ k ∧ k < w.heap.size + 2 + 1)) A B → I s B)
    (hIx : ∀ c s A B, Ix c s A → Only (fun k => k = bn ∨ (w.heap.size ≤ k ∧ k < w.heap.size + 2 + 1)) A B → Ix c s B)
    (h0 : I [] w) (a₁ : Nat → Act)
    (hassign : ∀ (l : Nat) (x : Nat) (W : World) (K : Act → World → Prop), K (a₁ x) W →
      assign.wpIn (Fence.wide.inRound l) 1 Tryz.prog (Exit.then K (fun _ _ _ => False)) { tmps := (ps.zip #[elC a x]).foldl (fun t (p, v) => t.setIfInBounds p v) av.tmps, defers := [] } W)
    (hbody : ∀ (l : Nat) (pre : List Nat) (i b o : Nat) (W : World), l = w.heap.size + 1 → (∃ r, W.heap[l]? = some (.loop r)) → I pre W → w.heap.size + 2 + 1 ≤ W.heap.size → (pre ++ [i]) <+: Tab.line t s → i < t.length → a = some ⟨b, o, none⟩ → ClsAt w0 b (o + i * 4) (Tab.nth t i) →
      body.wpIn (Fence.wide.inRound l) 1 Tryz.prog (ownPostW (fun k => B k ∨ w.heap.size + 3 ≤ k) I Ix (pre ++ [i]) W) (a₁ i) W)
    (hdone : ∀ (D : Nat) (W : World), D = w.heap.size → I (Tab.line t s) W → W.heap[D]? = some (.deferred (some [])) → Q .normal { av with defers := { target := .collected D, args := #[] } :: av.defers } W)
    (hstop : ∀ (D : Nat) (c : Code) (pre : List Nat) (W : World), D = w.heap.size → pre <+: Tab.line t s → Ix c pre W → W.heap[D]? = some (.deferred (some [])) → c.wpIn Fence.wide 3 Tryz.prog Q { av with defers := { target := .collected D, args := #[] } :: av.defers } W) :
    (Code.rangeFunc g ps assign body).wpIn Fence.wide 3 Tryz.prog Q av w := by
  have l1 := hbt.lt
  have l2 := hbn.lt
  have l0 := hk.size
  refine wpIn_rangeFunc_ownW (F := Fence.wide) (n := 3) rfl (by omega) hg trivial (enters_of Tryz.func137 (by kernel_rfl) rfl)
    (It := (· = bn)) (U := fun k => B k ∨ w.heap.size + 3 ≤ k) (S := (· = Tab.line t s)) (Sp := (· <+: Tab.line t s)) (G := (· <+: Tab.line t s)) (m := 1) (encs := fun i : Nat => #[elC a i])
    (fun W1 hk1 hs1 => line1_own (3 - 1) (by omega) a c t s w0 bt bn _ W1 hT ht (hk.trans hk1) (hbt.kept hk1) (hbn.kept hk1) hne h1 h2 (by omega) (by omega) (fun k h => ?_))
    (fun k e => by omega) (fun k h => ?_) (fun _ => hps.symm) I Ix hI hIx h0 a₁ hassign ?_ ?_ ?_
  · rcases h with h | h
    · obtain ⟨h3, h4, h5, h6⟩ := hB k h
      exact ⟨h3, h5, h6, by omega⟩
    · exact ⟨by omega, by omega, by omega, by omega⟩
  · rcases h with h | h
    · obtain ⟨h3, h4, h5, h6⟩ := hB k h
      exact ⟨by omega, by omega⟩
    · exact ⟨by omega, by omega⟩
  · intro l pre i W hl hr hi hpre hsz
    have hlt : i < t.length := Tab.line_lt (hpre.subset (by simp))
    obtain ⟨b, o, e, hc⟩ := Row.cellsC hT hlt
    exact hbody l pre i b o W hl hr hi hsz hpre hlt e hc
  · rintro D xs W e rfl hi hd
    exact hdone D W e hi hd
  · rintro D c pre W e hp hi hd
    exact hstop D c pre W e hp hi hd

end Go.Proofs.YtnjgagbblkjjeaaGreatDoor
