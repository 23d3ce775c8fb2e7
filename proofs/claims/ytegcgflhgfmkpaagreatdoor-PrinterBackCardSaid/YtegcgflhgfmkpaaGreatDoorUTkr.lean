import Derived.Test.YtegcgflhgfmkpaaGreatDoorUw1
import Derived.Test.YtegcgflhgfmkpaaGreatDoorUw5
set_option linter.unusedSimpArgs false
set_option linter.unusedVariables false
set_option maxRecDepth 100000
namespace Go.Proofs.YtegcgflhgfmkpaaGreatDoor
open Go.ChangeShapes Go.WideShapes Go.ChangeAt Go.RowKit
def tCells (x : Lx.T) : List Value := [.int .i64 x.kind, .string x.text, .int .i64 x.n, .int .i64 x.pos]
theorem tCells_len (x : Lx.T) : (tCells x).length = 4 := rfl
theorem info_tok : (Tryz.prog.info? 70).map (fun i => (i.zero, i.size, i.bytes)) = some (some (.agg #[.int .i64 0, .string ⟨#[]⟩, .int .i64 0, .int .i64 0]), 4, 40) := by kernel_rfl
def TokR (w : World) (b o : Nat) (x : Lx.T) : Prop := w.cell? ⟨b, o, none⟩ = some (.int .i64 x.kind) /\ w.cell? ⟨b, o + 1, none⟩ = some (.string x.text) /\ w.cell? ⟨b, o + 2, none⟩ = some (.int .i64 x.n) /\ w.cell? ⟨b, o + 3, none⟩ = some (.int .i64 x.pos)
abbrev TksAt (w : World) (v : Value) (l : List Lx.T) : Prop := Row 4 TokR w v l
theorem tks_kept {w w' : World} {v : Value} {l : List Lx.T} (h : TksAt w v l) (k : Kept w w') : TksAt w' v l := h.mono fun _ _ _ r => ⟨k.cell r.1, k.cell r.2.1, k.cell r.2.2.1, k.cell r.2.2.2⟩
end Go.Proofs.YtegcgflhgfmkpaaGreatDoor
