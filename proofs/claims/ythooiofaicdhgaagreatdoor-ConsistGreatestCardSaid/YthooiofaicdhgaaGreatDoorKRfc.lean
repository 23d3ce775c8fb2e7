/- The document's own answers about tables (chaperonref05): class, Fields. -/
import Derived.Test.YthooiofaicdhgaaGreatDoorKRft
import Derived.Test.YthooiofaicdhgaaGreatDoorKVla
set_option linter.unusedSimpArgs false
set_option linter.unusedVariables false
set_option maxRecDepth 100000
namespace Go.Proofs.YthooiofaicdhgaaGreatDoor
open Go.ChangeShapes Go.WideShapes Go.ChangeAt Go.RowKit
end Go.Proofs.YthooiofaicdhgaaGreatDoor
