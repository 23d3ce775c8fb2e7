/- The contract of table.Method. The contract of table.Field. The contract of slices.Backward at a row of methods: whatever body a loop over it has, in a loop's round too. The contract of table.Arity. -/
import Derived.Test.YthooiofaicdhgaaGreatDoorQLgt
import Derived.Test.YthooiofaicdhgaaGreatDoorQTbf
import Derived.Test.YthooiofaicdhgaaGreatDoorQBlk
import Derived.Test.YthooiofaicdhgaaGreatDoorQFi2
import Derived.Test.YthooiofaicdhgaaGreatDoorQMts
import Derived.Test.YthooiofaicdhgaaGreatDoorQKey
set_option linter.unusedSimpArgs false
set_option linter.unusedVariables false
set_option maxRecDepth 100000
namespace Go.Proofs.YthooiofaicdhgaaGreatDoor
open Go.ChangeShapes Go.WideShapes Go.ChangeAt Go.RowKit Go.Shelf
attribute [local go_sem] Oper.semAt_some
end Go.Proofs.YthooiofaicdhgaaGreatDoor
namespace Go.Proofs.YthooiofaicdhgaaGreatDoor
open Go.ChangeShapes Go.WideShapes Go.ChangeAt Go.RowKit Go.Shelf
attribute [local go_sem] Oper.semAt_some
end Go.Proofs.YthooiofaicdhgaaGreatDoor
namespace Go.Proofs.YthooiofaicdhgaaGreatDoor
open Go.RowKit Go.Shelf
attribute [local go_sem] Oper.semAt_some
end Go.Proofs.YthooiofaicdhgaaGreatDoor
namespace Go.Proofs.YthooiofaicdhgaaGreatDoor
open Go.ChangeShapes Go.WideShapes Go.ChangeAt Go.RowKit Go.Shelf
attribute [local go_sem] Oper.semAt_some
end Go.Proofs.YthooiofaicdhgaaGreatDoor
