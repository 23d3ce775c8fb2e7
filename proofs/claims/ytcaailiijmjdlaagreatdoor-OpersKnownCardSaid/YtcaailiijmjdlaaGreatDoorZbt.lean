/- From what a row lists to the table of math/bits. -/
import Derived.Test.YtcaailiijmjdlaaGreatDoorTxt
import Derived.Lib.LaidTab
import Derived.Lib.LaidU8
set_option linter.unusedSimpArgs false
set_option linter.unusedVariables false
set_option maxRecDepth 100000
namespace Go.Proofs.YtcaailiijmjdlaaGreatDoor
open Go.ChangeShapes Go.WideShapes Go.ChangeAt Go.RowKit Go.Lib

def brl : List Int := [0, 1, 56, 2, 57, 49, 28, 3, 61, 58, 42, 50, 38, 29, 17, 4, 62, 47, 59, 36, 45, 43, 51, 22, 53, 39, 33, 30, 24, 18, 12, 5, 63, 55, 48, 27, 60, 41, 37, 16, 46, 35, 44, 21, 52, 32, 23, 11, 54, 26, 40, 15, 34, 20, 31, 10, 25, 14, 19, 9, 13, 8, 7, 6]

theorem tab_of_reads {w : World} (h1 : VarReads Tryz.prog w "math/bits.deBruijn64tab" (tabData .u8 brl)) : Tab w := by
  obtain ⟨g, t, cs, fuel, p, hg, hty, hvar, hd⟩ := h1
  obtain rfl := Option.some.inj ((show Tryz.prog.globalNamed "math/bits.deBruijn64tab" = some 5 by kernel_rfl).symm.trans hg)
  obtain rfl := Option.some.inj ((show (Tryz.prog.globals[5]?).map (·.type) = some 168 by kernel_rfl).symm.trans hty)
  have e := cells_of_tab Tryz.underlying168 Tryz.underlying5 (by kernel_rfl) (by kernel_rfl) hd
  have T1 : Lib.TabIs Tryz.prog w "math/bits.deBruijn64tab" .u8 brl := by
    unfold Lib.TabIs
    rw [hvar, ← e]
  exact T1.cell hg 15 (by decide)

end Go.Proofs.YtcaailiijmjdlaaGreatDoor
