/- The laws' copies of classes and tables: chaperonkit.CopyClass, CopyTable. -/
import Derived.Test.YthooiofaicdhgaaGreatDoorKMem
import Derived.Test.YthooiofaicdhgaaGreatDoorKMts
set_option linter.unusedSimpArgs false
set_option linter.unusedVariables false
set_option maxRecDepth 100000
namespace Go.Proofs.YthooiofaicdhgaaGreatDoor
open Go.ChangeShapes Go.WideShapes Go.ChangeAt Go.RowKit
end Go.Proofs.YthooiofaicdhgaaGreatDoor
