/-
  DERIVED. GIVEN WITH THE SEED: THE CARDS: each row of YtfpklgffdniegaaGreatDoorRows.lean that lists a variable, with what it lists TIED to the program's text (the seventh form; the later family's looks); each row that meets fmt, with fmt's text TOLD by the authors' own Lean function (tested against real Go, not proved from fmt's source: count such statements apart). THE CARD IS WHAT COUNTS. Prove the row's statement (the work); the ties are given (YtfpklgffdniegaaGreatDoorTie.lean); close each card by the builder's one call (the guide's Derived/Test/ToyasCard.lean, 'card_holds'). Laid BY PROGRAM, IN A SANDBOX (cutbox-door.mjs). By AI agents, Wed Nov 11 2026. No macro, syntax, notation, axiom, sorry.
-/
import Derived.Test.YtfpklgffdniegaaGreatDoorRows
import GoSem.ClaimSeven
namespace Go.Proofs.YtfpklgffdniegaaGreatDoor
namespace Rows

/-- THE TIED CARD OF 'chaperonlaw14.PrinterKnown'. -/
def printerKnownCard : Claim7 := { stood := { row := printerKnownRow, standIns := [], harness := (true, "3abbe2741423f8e58166def5294f50a564577752ba3f94f491274b6cd8e89b4f"), looks := true }, kinds := [], alts := [], laidByText := true, laidKinds := [.data, .data, .data, .data, .sentinel, .sentinel, .listed, .data, .data, .data, .pinned], laidTests := true, laidLooks := .later }
def PrinterKnownCardSaid : Prop := Claim7.holds Tryz.pinned (.plain (OpenSpec.ofChange printerKnownSpec)) printerKnownCard

/-- THE TIED CARD OF 'chaperonlaw14.PrinterBack'. -/
def printerBackCard : Claim7 := { stood := { row := printerBackRow, standIns := [], harness := (true, "3abbe2741423f8e58166def5294f50a564577752ba3f94f491274b6cd8e89b4f"), looks := true }, kinds := [], alts := [], laidByText := true, laidKinds := [.data, .data, .data, .data, .sentinel, .sentinel, .listed, .data, .data, .data, .data, .pinned], laidTests := true, laidLooks := .later }
def PrinterBackCardSaid : Prop := Claim7.holds Tryz.pinned (.plain (OpenSpec.ofChange printerBackSpec)) printerBackCard

/-- THE TIED CARD OF 'chaperonlaw14.PrinterAgain'. -/
def printerAgainCard : Claim7 := { stood := { row := printerAgainRow, standIns := [], harness := (true, "3abbe2741423f8e58166def5294f50a564577752ba3f94f491274b6cd8e89b4f"), looks := true }, kinds := [], alts := [], laidByText := true, laidKinds := [.data, .data, .data, .data, .sentinel, .sentinel, .listed, .data, .data, .data, .data, .pinned], laidTests := true, laidLooks := .later }
def PrinterAgainCardSaid : Prop := Claim7.holds Tryz.pinned (.plain (OpenSpec.ofChange printerAgainSpec)) printerAgainCard

/-- THE TIED CARD OF 'chaperonlaw14.PrinterNeeds'. -/
def printerNeedsCard : Claim7 := { stood := { row := printerNeedsRow, standIns := [], harness := (true, "3abbe2741423f8e58166def5294f50a564577752ba3f94f491274b6cd8e89b4f"), looks := true }, kinds := [], alts := [], laidByText := true, laidKinds := [.data, .data, .data, .data, .sentinel, .sentinel, .listed, .data, .data, .data, .data, .pinned], laidTests := true, laidLooks := .later }
def PrinterNeedsCardSaid : Prop := Claim7.holds Tryz.pinned (.plain (OpenSpec.ofChange printerNeedsSpec)) printerNeedsCard

/-- THE SECOND FORM's CARD OF 'chaperonlaw14.PrinterKnown'. -/
def printerKnownUptoCard : Claim7 := { stood := { row := printerKnownUptoRow, standIns := [], harness := (true, "3abbe2741423f8e58166def5294f50a564577752ba3f94f491274b6cd8e89b4f"), looks := true }, kinds := [], alts := [], laidByText := true, laidKinds := [.data, .data, .data, .data, .sentinel, .sentinel, .listed, .data, .data, .data, .pinned], laidTests := true, laidLooks := .later }
def PrinterKnownUptoCardSaid : Prop := Claim7.holds Tryz.pinned (.plain (OpenSpec.upto printerKnownSpec)) printerKnownUptoCard

/-- THE SECOND FORM's CARD OF 'chaperonlaw14.PrinterBack'. -/
def printerBackUptoCard : Claim7 := { stood := { row := printerBackUptoRow, standIns := [], harness := (true, "3abbe2741423f8e58166def5294f50a564577752ba3f94f491274b6cd8e89b4f"), looks := true }, kinds := [], alts := [], laidByText := true, laidKinds := [.data, .data, .data, .data, .sentinel, .sentinel, .listed, .data, .data, .data, .data, .pinned], laidTests := true, laidLooks := .later }
def PrinterBackUptoCardSaid : Prop := Claim7.holds Tryz.pinned (.plain (OpenSpec.upto printerBackSpec)) printerBackUptoCard

/-- THE SECOND FORM's CARD OF 'chaperonlaw14.PrinterAgain'. -/
def printerAgainUptoCard : Claim7 := { stood := { row := printerAgainUptoRow, standIns := [], harness := (true, "3abbe2741423f8e58166def5294f50a564577752ba3f94f491274b6cd8e89b4f"), looks := true }, kinds := [], alts := [], laidByText := true, laidKinds := [.data, .data, .data, .data, .sentinel, .sentinel, .listed, .data, .data, .data, .data, .pinned], laidTests := true, laidLooks := .later }
def PrinterAgainUptoCardSaid : Prop := Claim7.holds Tryz.pinned (.plain (OpenSpec.upto printerAgainSpec)) printerAgainUptoCard

/-- THE SECOND FORM's CARD OF 'chaperonlaw14.PrinterNeeds'. -/
def printerNeedsUptoCard : Claim7 := { stood := { row := printerNeedsUptoRow, standIns := [], harness := (true, "3abbe2741423f8e58166def5294f50a564577752ba3f94f491274b6cd8e89b4f"), looks := true }, kinds := [], alts := [], laidByText := true, laidKinds := [.data, .data, .data, .data, .sentinel, .sentinel, .listed, .data, .data, .data, .data, .pinned], laidTests := true, laidLooks := .later }
def PrinterNeedsUptoCardSaid : Prop := Claim7.holds Tryz.pinned (.plain (OpenSpec.upto printerNeedsSpec)) printerNeedsUptoCard
end Rows
end Go.Proofs.YtfpklgffdniegaaGreatDoor
