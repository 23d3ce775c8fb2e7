/- From what PrinterKnown's row lists to what the printer's walks ask. -/
import Derived.Test.YtfpklgffdniegaaGreatDoorQw34
import Derived.Test.YtfpklgffdniegaaGreatDoorQw35
set_option linter.unusedSimpArgs false
set_option linter.unusedVariables false
set_option maxRecDepth 100000
namespace Go.Proofs.YtfpklgffdniegaaGreatDoor
open Go.ChangeShapes Go.WideShapes Go.ChangeAt Go.RowKit Go.Lib
theorem qtab_of_reads {w : World} (h1 : VarReads Tryz.prog w "strings.asciiSpace" (tabData .u8 spl)) (h0 : VarReads Tryz.prog w "chaperon/words.bases" basesD) (h2 : VarReads Tryz.prog w "chaperon/lexer.escapes" escD)
  (h3 : VarReads Tryz.prog w "strconv.ErrRange" errD) (h5 : VarReads Tryz.prog w "internal/strconv.uint64pow10" (tabData .u64 Lib.pow10Tab)) : QTab w := by
 refine ⟨⟨?_, ?_, ?_⟩, pw_of_reads h5, er_of_reads h3⟩
 ·obtain ⟨g, t, cs, fuel, p, hg, hty, hvar, hd⟩ := h0
  obtain rfl := Option.some.inj ((show Tryz.prog.globalNamed "chaperon/words.bases" = some 4 by kernel_rfl).symm.trans hg)
  obtain rfl := Option.some.inj ((show (Tryz.prog.globals[4]?).map (·.type) = some 183 by kernel_rfl).symm.trans hty)
  have e := bases_cells hd
  obtain rfl : cs = bcs := Array.toList_inj.1 e
  exact heap_of_varL hg hvar
 ·obtain ⟨g, t, cs, fuel, p, hg, hty, hvar, hd⟩ := h1
  obtain rfl := Option.some.inj ((show Tryz.prog.globalNamed "strings.asciiSpace" = some 1 by kernel_rfl).symm.trans hg)
  obtain rfl := Option.some.inj ((show (Tryz.prog.globals[1]?).map (·.type) = some 166 by kernel_rfl).symm.trans hty)
  have e := cells_of_tab Tryz.underlying166 Tryz.underlying5 (by kernel_rfl) (by kernel_rfl) hd
  obtain rfl : cs = spcs := Array.toList_inj.1 (e.trans (by unfold spcs; simp))
  exact heap_of_varL hg hvar
 ·obtain ⟨g, t, cs, fuel, p, hg, hty, hvar, hd⟩ := h2
  obtain rfl := Option.some.inj ((show Tryz.prog.globalNamed "chaperon/lexer.escapes" = some 2 by kernel_rfl).symm.trans hg)
  obtain rfl := Option.some.inj ((show (Tryz.prog.globals[2]?).map (·.type) = some 177 by kernel_rfl).symm.trans hty)
  have e := esc_cells hd
  obtain rfl : cs = ecs := Array.toList_inj.1 e
  exact heap_of_varL hg hvar
end Go.Proofs.YtfpklgffdniegaaGreatDoor
