/- How many nodes a tree has, and how deep it is: Count, Depth. -/
import Derived.Test.YtfpklgffdniegaaGreatDoorQTri
import Derived.Shelf.Abstract
set_option linter.unusedSimpArgs false
set_option linter.unusedVariables false
set_option maxRecDepth 100000
namespace Go.Proofs.YtfpklgffdniegaaGreatDoor
open Go.ChangeShapes Go.WideShapes Go.ChangeAt Go.RowKit Go.Shelf
attribute [local go_sem] Oper.semAt_some
/-- The world behind the box, the counter and the iterator's box. -/
theorem box_kids {w W : World} {s : Value} {l : List Nd} (hk : KidsAt w s l) (k : Kept w W) : KidsD (· < w.heap.size) W s l := (KidsD.low hk).kept k
end Go.Proofs.YtfpklgffdniegaaGreatDoor
