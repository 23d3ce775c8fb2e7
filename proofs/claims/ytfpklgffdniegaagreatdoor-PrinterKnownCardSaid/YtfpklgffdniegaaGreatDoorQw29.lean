/- The last token taken; Parse. -/
import Derived.Test.YtfpklgffdniegaaGreatDoorQw19
import Derived.Test.YtfpklgffdniegaaGreatDoorQw28
import Derived.Recover
import Derived.Defers
set_option linter.unusedSimpArgs false
set_option linter.unusedVariables false
set_option maxRecDepth 100000
namespace Go.Proofs.YtfpklgffdniegaaGreatDoor
open Go.ChangeShapes Go.WideShapes Go.ChangeAt Go.RowKit
attribute [local go_sem] Oper.semAt_some
-- open
end Go.Proofs.YtfpklgffdniegaaGreatDoor
namespace Go.Proofs.YtfpklgffdniegaaGreatDoor
open Go.ChangeShapes Go.WideShapes Go.ChangeAt Go.RowKit
attribute [local go_sem] Oper.semAt_some
-- open
namespace Px
end Px
open Px
end Go.Proofs.YtfpklgffdniegaaGreatDoor
