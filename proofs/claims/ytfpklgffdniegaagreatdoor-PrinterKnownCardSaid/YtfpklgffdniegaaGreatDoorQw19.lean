/- A lexed source's tokens are such as the parser wants; the levels, the map of ways, as the program makes them. -/
import Derived.Test.YtfpklgffdniegaaGreatDoorQw9
import Derived.Test.YtfpklgffdniegaaGreatDoorQw18
import Derived.Carry
import Derived.StringKeys
set_option linter.unusedSimpArgs false
set_option linter.unusedVariables false
set_option maxRecDepth 100000
namespace Go.Proofs.YtfpklgffdniegaaGreatDoor
open Go.ChangeShapes Go.WideShapes Go.ChangeAt Go.RowKit
attribute [local go_sem] Oper.semAt_some
-- open
namespace Lx
end Lx
theorem blk_new {w : World} {t : TypeId} {cs : Array Value} {g : Nat} (h : w.heap.size = g) : Blk (w.alloc (.cells cs t)) g t cs := h ▸ Blk.new w t cs
end Go.Proofs.YtfpklgffdniegaaGreatDoor
namespace Go.Proofs.YtfpklgffdniegaaGreatDoor
open Go.ChangeShapes Go.WideShapes Go.ChangeAt Go.RowKit
attribute [local go_sem] Oper.semAt_some
-- open
end Go.Proofs.YtfpklgffdniegaaGreatDoor
