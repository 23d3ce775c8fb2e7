import Derived.Test.YtegcgflhgfmkpaaGreatDoorUTri
import Derived.Shelf.Abstract
set_option linter.unusedSimpArgs false
set_option linter.unusedVariables false
set_option maxRecDepth 100000
namespace Go.Proofs.YtegcgflhgfmkpaaGreatDoor
open Go.ChangeShapes Go.WideShapes Go.ChangeAt Go.RowKit Go.Shelf
attribute [local go_sem] Oper.semAt_some
theorem box_kids {w W : World} {s : Value} {l : List Nd} (hk : KidsAt w s l) (k : Kept w W) : KidsD (· < w.heap.size) W s l := (KidsD.low hk).kept k
end Go.Proofs.YtegcgflhgfmkpaaGreatDoor
