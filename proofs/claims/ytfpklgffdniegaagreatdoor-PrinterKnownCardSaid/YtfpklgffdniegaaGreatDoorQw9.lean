/- The contracts of prim (a map of ways), brackets. -/
import Derived.Test.YtfpklgffdniegaaGreatDoorQw8
import Derived.StringKeys
set_option linter.unusedSimpArgs false
set_option linter.unusedVariables false
set_option maxRecDepth 100000
namespace Go.Proofs.YtfpklgffdniegaaGreatDoor
open Go.ChangeShapes Go.WideShapes Go.ChangeAt Go.RowKit
attribute [local go_sem] Oper.semAt_some
-- open
section
-- variable
end
end Go.Proofs.YtfpklgffdniegaaGreatDoor
namespace Go.Proofs.YtfpklgffdniegaaGreatDoor
open Go.ChangeShapes Go.WideShapes Go.ChangeAt Go.RowKit
attribute [local go_sem] Oper.semAt_some
-- open
section
-- variable
end
end Go.Proofs.YtfpklgffdniegaaGreatDoor
namespace Go.Proofs.YtfpklgffdniegaaGreatDoor
open Go.ChangeShapes Go.WideShapes Go.ChangeAt Go.RowKit
attribute [local go_sem] Oper.semAt_some
-- open
section
-- variable
end
end Go.Proofs.YtfpklgffdniegaaGreatDoor
namespace Go.Proofs.YtfpklgffdniegaaGreatDoor
open Go.ChangeShapes Go.WideShapes Go.ChangeAt Go.RowKit
attribute [local go_sem] Oper.semAt_some
-- open
section
-- variable
end
end Go.Proofs.YtfpklgffdniegaaGreatDoor
namespace Go.Proofs.YtfpklgffdniegaaGreatDoor
open Go.ChangeShapes Go.WideShapes Go.ChangeAt Go.RowKit
attribute [local go_sem] Oper.semAt_some
-- open
section
-- variable
end
end Go.Proofs.YtfpklgffdniegaaGreatDoor
namespace Go.Proofs.YtfpklgffdniegaaGreatDoor
open Go.ChangeShapes Go.WideShapes Go.ChangeAt Go.RowKit
attribute [local go_sem] Oper.semAt_some
-- open
section
-- variable
end
end Go.Proofs.YtfpklgffdniegaaGreatDoor
namespace Go.Proofs.YtfpklgffdniegaaGreatDoor
open Go.ChangeShapes Go.WideShapes Go.ChangeAt Go.RowKit
attribute [local go_sem] Oper.semAt_some
-- open
section
-- variable
end
end Go.Proofs.YtfpklgffdniegaaGreatDoor
