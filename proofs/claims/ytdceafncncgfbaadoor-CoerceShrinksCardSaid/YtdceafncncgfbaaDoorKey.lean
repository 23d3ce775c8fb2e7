/- The contract of strings.FieldsSeq at a text of ASCII bytes: which fields it yields, whatever body a loop over it has; and the tables that package words reads. Contracts of words.Key: is a text reserved? What was in the world stays as it was. -/
import Derived.RangeFuncNested
import Derived.RangeFuncBound
import Derived.RangeFuncCalls
import Derived.RangeFuncLeaves
import Derived.RangeFuncBox
import Derived.Shelf.Abstract
import Derived.Shelf.RegionOpen
import Derived.WalkKit
import Derived.OwnWalkIn
import Derived.TacticsInMore
import Derived.LoopNIn
import Derived.LoopIn
import Derived.Maps.AppendAt
import Derived.WalkLawsBesides
import Derived.Test.YtdceafncncgfbaaDoorBlk
import Derived.Test.YtdceafncncgfbaaDoorTck
set_option linter.unusedSimpArgs false
set_option linter.unusedVariables false
namespace Go.Proofs.YtdceafncncgfbaaDoor
open Go.RowKit Go.Shelf
attribute [local go_sem] Oper.semAt_some

/-- What the tables hold: the base types with their tags; which bytes are blanks. -/
def bcs : Array Value := (Wrd.bs.zipIdx.flatMap fun x => [Value.string x.1, Value.int .i64 (x.2 + 1)]).toArray

/-- Which letters stand behind a sign of escape, and what each means. -/
def ecs : Array Value := #[.int .u8 34, .int .u8 34, .int .u8 92, .int .u8 92, .int .u8 110, .int .u8 10]

def spl : List Int := (List.range 256).map fun c => if Wrd.spB (UInt8.ofNat c) then 1 else 0

def spcs : Array Value := (spl.map fun z => Value.int .u8 z).toArray

/-- The base types' table is as the program's text lays it. -/
def Tb (w : World) : Prop := (∃ t fr, w.heap[0]? = some (.cells bcs t fr)) ∧ True

def TbP (k : Nat) : Prop := k = 0

theorem Tb.same {w w' : World} (h : Tb w) (hs : ∀ k, TbP k → w'.heap[k]? = w.heap[k]?) : Tb w' := by
  obtain ⟨⟨t0, f0, a⟩, _⟩ := h
  exact ⟨⟨t0, f0, (hs _ rfl).trans a⟩, trivial⟩

theorem Tb.ltP {w : World} (h : Tb w) (k : Nat) (hk : TbP k) : k < w.heap.size := by
  obtain ⟨⟨t0, f0, a⟩, _⟩ := h
  obtain rfl := hk
  exact (Array.getElem?_eq_some_iff.1 a).1

theorem Tb.kept {w w' : World} (h : Tb w) (k : Kept w w') : Tb w' := h.same fun i hi => k.block i (h.ltP i hi)

/-- Blocks are as they were: the tables, and one more. -/
def Kp3 (Bn : Nat) (W W' : World) : Prop := W.heap.size ≤ W'.heap.size ∧ ∀ k, TbP k ∨ k = Bn → W'.heap[k]? = W.heap[k]?

theorem kp3_t {Bn : Nat} {A B C : World} (h : Kp3 Bn A B) (k : Kp3 Bn B C) : Kp3 Bn A C := ⟨Nat.le_trans h.1 k.1, fun i hi => (k.2 i hi).trans (h.2 i hi)⟩

theorem kp3_b {Bn : Nat} {w : World} (hT : Tb w) (hB : Bn < w.heap.size) (W : World) (l : Nat) (o o' : Obj) (hl : w.heap.size ≤ l) (h : W.heap[l]? = some o) (_ : o.isCells = false) (_ : o.isWalk = false) : Kp3 Bn W (W.putObj l o') := by
  refine ⟨by simp [World.putObj], fun k hk => World.putObj_heap_other ?_⟩
  rcases hk with hk | rfl
  · have := hT.ltP k hk; omega
  · omega

theorem Kp3.of_kept {Bn : Nat} {W W' : World} (hT : Tb W) (hB : Bn < W.heap.size) (k : Kept W W') : Kp3 Bn W W' := by
  refine ⟨k.size, fun i hi => k.block i ?_⟩
  rcases hi with hi | rfl
  · exact hT.ltP i hi
  · exact hB

/-- Where a field began. -/
def stV : Option Nat → Int
  | none => -1
  | some b => b

theorem yield_lt {s : ByteArray} {pre : List ByteArray} {x : ByteArray} (h : pre ++ [x] <+: Wrd.flds s) : pre.length < (Wrd.flds s).length := by
  have := h.length_le
  simp at this
  omega

theorem st_end {s : ByteArray} {k b : Nat} {pre : List ByteArray} (hk : k < s.size) (h : Wrd.st s k = (some b, pre)) (hc : Wrd.spB (s.data.toList.getD k 0) = true) : Wrd.st s (k + 1) = (none, pre ++ [s.extract b k]) := by
  conv => lhs; unfold Wrd.st
  rw [h]; dsimp only; rw [if_pos hc]
theorem st_goes {s : ByteArray} {k b : Nat} {pre : List ByteArray} (h : Wrd.st s k = (some b, pre)) (hc : Wrd.spB (s.data.toList.getD k 0) = false) : Wrd.st s (k + 1) = (some b, pre) := by
  conv => lhs; unfold Wrd.st
  rw [h]; dsimp only; rw [hc]; rfl
theorem st_none {s : ByteArray} {k : Nat} {pre : List ByteArray} (h : Wrd.st s k = (none, pre)) (hc : Wrd.spB (s.data.toList.getD k 0) = true) : Wrd.st s (k + 1) = (none, pre) := by
  conv => lhs; unfold Wrd.st
  rw [h]; dsimp only; rw [hc]; rfl
theorem st_opens {s : ByteArray} {k : Nat} {pre : List ByteArray} (h : Wrd.st s k = (none, pre)) (hc : Wrd.spB (s.data.toList.getD k 0) = false) : Wrd.st s (k + 1) = (some k, pre) := by
  conv => lhs; unfold Wrd.st
  rw [h]; dsimp only; rw [hc]; rfl

end Go.Proofs.YtdceafncncgfbaaDoor

namespace Go.Proofs.YtdceafncncgfbaaDoor
open Go.ChangeShapes Go.WideShapes Go.ChangeAt Go.RowKit Go.Shelf
attribute [local go_sem] Oper.semAt_some

/-- Within the loop: the texts so far are other ones. -/
def KeyI (w : World) (s : ByteArray) (pre : List ByteArray) (W : World) : Prop :=
  Blk W w.heap.size 9 #[.string s] ∧ Blk W (w.heap.size + 1) 4 #[.bool false] ∧ Below w.heap.size w W ∧ s ∉ pre

/-- It was found. -/
def KeyX (w : World) (s : ByteArray) (c : Code) (pre : List ByteArray) (W : World) : Prop :=
  c = .ret ∧ Blk W (w.heap.size + 1) 4 #[.bool true] ∧ Below w.heap.size w W ∧ s ∈ pre

theorem Blk.grown {W W' : World} {g : Nat} {t : TypeId} {cs : Array Value} {row : Option Nat} (h : Blk W g t cs) (hg : W.grownBy W' row) (hr : ∀ r, row = some r → ∃ o : Obj, W.heap[r]? = some o ∧ o.isCells = false) : Blk W' g t cs := by
  refine (hg.block g h.lt fun e => ?_).trans h
  obtain ⟨o, ho, hc⟩ := hr g e.symm
  unfold Blk at h
  rw [h] at ho; cases ho; cases hc

theorem keyI_from (w : World) (s : ByteArray) (B : Nat) (hB : w.heap.size ≤ B) : OwnFrom B (KeyI w s) := by
  rintro pre X Y row ⟨h1, h2, h3, h4⟩ hg hr
  exact ⟨h1.grown hg fun r e => (hr r e).2, h2.grown hg fun r e => (hr r e).2, h3.grown hg h3.size (fun k e => Nat.le_trans hB (hr k e).1), h4⟩
theorem keyX_from (w : World) (s : ByteArray) (c : Code) (B : Nat) (hB : w.heap.size ≤ B) : OwnFrom B (KeyX w s c) := by
  rintro pre X Y row ⟨h0, h2, h3, h4⟩ hg hr
  exact ⟨h0, h2.grown hg fun r e => (hr r e).2, h3.grown hg h3.size (fun k e => Nat.le_trans hB (hr k e).1), h4⟩

/-- Texts compared, as the walk spells it. -/
theorem beq_no {x s : ByteArray} (h : ¬ x = s) : (x.toList == s.toList) = false := by
  cases e : x.toList == s.toList with
  | false => rfl
  | true =>
    have e' := eq_of_beq e
    rw [ByteArray.toList_eq, ByteArray.toList_eq] at e'
    exact absurd (ByteArray.ext (Array.toList_inj.1 e')) h

end Go.Proofs.YtdceafncncgfbaaDoor
