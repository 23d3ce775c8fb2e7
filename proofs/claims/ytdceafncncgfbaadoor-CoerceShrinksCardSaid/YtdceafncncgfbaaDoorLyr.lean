/- Layers in memory (out of Chm). -/
import Derived.Test.YtdceafncncgfbaaDoorRow
set_option linter.unusedSimpArgs false
set_option linter.unusedVariables false
set_option maxRecDepth 100000
namespace Go.Proofs.YtdceafncncgfbaaDoor
open Go.ChangeShapes Go.WideShapes Go.ChangeAt Go.RowKit

structure Ly where
  out : Bool
  cls : ByteArray
  lab : Int
deriving DecidableEq
theorem ly_ext {x y : Ly} (h1 : x.out = y.out) (h2 : x.cls = y.cls) (h3 : x.lab = y.lab) : x = y := by
  cases x; cases y; cases h1; cases h2; cases h3; rfl

def LyAt (w : World) (b o : Nat) (x : Ly) : Prop :=
  w.cell? ⟨b, o, none⟩ = some (.bool x.out) ∧ w.cell? ⟨b, o + 1, none⟩ = some (.string x.cls) ∧ w.cell? ⟨b, o + 2, none⟩ = some (.int .i64 x.lab) ∧ x.cls.size ≤ maxLen
abbrev LysAt (w : World) (v : Value) (l : List Ly) : Prop := Row 3 LyAt w v l
theorem LyAt.kept {w w' : World} {b o : Nat} {x : Ly} (h : LyAt w b o x) (k : Kept w w') : LyAt w' b o x := ⟨k.cell h.1, k.cell h.2.1, k.cell h.2.2.1, h.2.2.2⟩
theorem lys_kept {w w' : World} {v : Value} {l : List Ly} (h : LysAt w v l) (k : Kept w w') : LysAt w' v l := h.mono fun _ _ _ r => r.kept k
theorem lys_fine {w : World} {v : Value} {l : List Ly} (h : LysAt w v l) : ∀ x ∈ l, x.cls.size ≤ maxLen := by
  intro x hx
  obtain ⟨a, c, _, _, _, h3⟩ := h
  obtain ⟨i, hi⟩ := List.getElem?_of_mem hx
  obtain ⟨b, o, _, r⟩ := h3 i x hi
  exact r.2.2.2

theorem addr_plainL (b o j : Nat) : (⟨b, o, none⟩ : Addr).add j = ⟨b, o + j, none⟩ := by
  unfold Addr.add
  split
  · rename_i h; rw [h]; rfl
  · rfl

end Go.Proofs.YtdceafncncgfbaaDoor
