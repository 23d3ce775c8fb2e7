/- The document's own answers about tables (chaperonref05): Find, in, Supers. -/
import Derived.Test.YthooiofaicdhgaaGreatDoorKMts
import Derived.Test.YthooiofaicdhgaaGreatDoorKMem
set_option linter.unusedSimpArgs false
set_option linter.unusedVariables false
set_option maxRecDepth 100000
namespace Go.Proofs.YthooiofaicdhgaaGreatDoor
open Go.ChangeShapes Go.WideShapes Go.ChangeAt Go.RowKit
end Go.Proofs.YthooiofaicdhgaaGreatDoor
