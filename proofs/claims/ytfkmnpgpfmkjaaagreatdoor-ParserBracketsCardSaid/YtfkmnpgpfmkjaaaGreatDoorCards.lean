/-
  DERIVED. GIVEN WITH THE SEED: THE CARDS: each row of YtfkmnpgpfmkjaaaGreatDoorRows.lean that lists a variable, with what it lists TIED to the program's text (the seventh form; the later family's looks); each row that meets fmt, with fmt's text TOLD by the authors' own Lean function (tested against real Go, not proved from fmt's source: count such statements apart). THE CARD IS WHAT COUNTS. Prove the row's statement (the work); the ties are given (YtfkmnpgpfmkjaaaGreatDoorTie.lean); close each card by the builder's one call (the guide's Derived/Test/ToyasCard.lean, 'card_holds'). Laid BY PROGRAM, IN A SANDBOX (cutbox-door.mjs). By AI agents, Wed Nov 11 2026. No macro, syntax, notation, axiom, sorry.
-/
import Derived.Test.YtfkmnpgpfmkjaaaGreatDoorRows
import GoSem.ClaimSeven
namespace Go.Proofs.YtfkmnpgpfmkjaaaGreatDoor
namespace Rows

/-- THE TIED CARD OF 'chaperonlaw13.ParserKnown'. -/
def parserKnownCard : Claim7 := { stood := { row := parserKnownRow, standIns := [], harness := (true, "d8a73ad25984c36d95683886dc0c2c8e02118aeb96ce594dba69b0fe8f55d25d"), looks := true }, kinds := [], alts := [], laidByText := true, laidKinds := [.data, .data, .data, .data, .sentinel, .sentinel, .listed, .data, .data, .data, .data, .pinned], laidTests := true, laidLooks := .later }
def ParserKnownCardSaid : Prop := Claim7.holds Tryz.pinned (.plain (OpenSpec.ofChange parserKnownSpec)) parserKnownCard

/-- THE TIED CARD OF 'chaperonlaw13.ParserBlanks'. -/
def parserBlanksCard : Claim7 := { stood := { row := parserBlanksRow, standIns := [], harness := (true, "d8a73ad25984c36d95683886dc0c2c8e02118aeb96ce594dba69b0fe8f55d25d"), looks := true }, kinds := [], alts := [], laidByText := true, laidKinds := [.data, .data, .data, .data, .sentinel, .sentinel, .listed, .data, .data, .data, .data, .pinned], laidTests := true, laidLooks := .later }
def ParserBlanksCardSaid : Prop := Claim7.holds Tryz.pinned (.plain (OpenSpec.ofChange parserBlanksSpec)) parserBlanksCard

/-- THE TIED CARD OF 'chaperonlaw13.ParserBrackets'. -/
def parserBracketsCard : Claim7 := { stood := { row := parserBracketsRow, standIns := [], harness := (true, "d8a73ad25984c36d95683886dc0c2c8e02118aeb96ce594dba69b0fe8f55d25d"), looks := true }, kinds := [], alts := [], laidByText := true, laidKinds := [.data, .data, .data, .data, .sentinel, .sentinel, .listed, .data, .data, .data, .data, .pinned], laidTests := true, laidLooks := .later }
def ParserBracketsCardSaid : Prop := Claim7.holds Tryz.pinned (.plain (OpenSpec.ofChange parserBracketsSpec)) parserBracketsCard

/-- THE TIED CARD OF 'chaperonlaw13.ParserFirst'. -/
def parserFirstCard : Claim7 := { stood := { row := parserFirstRow, standIns := [], harness := (true, "d8a73ad25984c36d95683886dc0c2c8e02118aeb96ce594dba69b0fe8f55d25d"), looks := true }, kinds := [], alts := [], laidByText := true, laidKinds := [.data, .data, .data, .data, .sentinel, .sentinel, .listed, .data, .data, .data, .data, .pinned], laidTests := true, laidLooks := .later }
def ParserFirstCardSaid : Prop := Claim7.holds Tryz.pinned (.plain (OpenSpec.ofChange parserFirstSpec)) parserFirstCard

/-- THE TIED CARD OF 'chaperonlaw13.ParserMore'. -/
def parserMoreCard : Claim7 := { stood := { row := parserMoreRow, standIns := [], harness := (true, "d8a73ad25984c36d95683886dc0c2c8e02118aeb96ce594dba69b0fe8f55d25d"), looks := true }, kinds := [], alts := [], laidByText := true, laidKinds := [.data, .data, .data, .data, .sentinel, .sentinel, .listed, .data, .data, .data, .data, .pinned], laidTests := true, laidLooks := .later }
def ParserMoreCardSaid : Prop := Claim7.holds Tryz.pinned (.plain (OpenSpec.ofChange parserMoreSpec)) parserMoreCard

/-- THE SECOND FORM's CARD OF 'chaperonlaw13.ParserKnown'. -/
def parserKnownUptoCard : Claim7 := { stood := { row := parserKnownUptoRow, standIns := [], harness := (true, "d8a73ad25984c36d95683886dc0c2c8e02118aeb96ce594dba69b0fe8f55d25d"), looks := true }, kinds := [], alts := [], laidByText := true, laidKinds := [.data, .data, .data, .data, .sentinel, .sentinel, .listed, .data, .data, .data, .data, .pinned], laidTests := true, laidLooks := .later }
def ParserKnownUptoCardSaid : Prop := Claim7.holds Tryz.pinned (.plain (OpenSpec.upto parserKnownSpec)) parserKnownUptoCard

/-- THE SECOND FORM's CARD OF 'chaperonlaw13.ParserBlanks'. -/
def parserBlanksUptoCard : Claim7 := { stood := { row := parserBlanksUptoRow, standIns := [], harness := (true, "d8a73ad25984c36d95683886dc0c2c8e02118aeb96ce594dba69b0fe8f55d25d"), looks := true }, kinds := [], alts := [], laidByText := true, laidKinds := [.data, .data, .data, .data, .sentinel, .sentinel, .listed, .data, .data, .data, .data, .pinned], laidTests := true, laidLooks := .later }
def ParserBlanksUptoCardSaid : Prop := Claim7.holds Tryz.pinned (.plain (OpenSpec.upto parserBlanksSpec)) parserBlanksUptoCard

/-- THE SECOND FORM's CARD OF 'chaperonlaw13.ParserBrackets'. -/
def parserBracketsUptoCard : Claim7 := { stood := { row := parserBracketsUptoRow, standIns := [], harness := (true, "d8a73ad25984c36d95683886dc0c2c8e02118aeb96ce594dba69b0fe8f55d25d"), looks := true }, kinds := [], alts := [], laidByText := true, laidKinds := [.data, .data, .data, .data, .sentinel, .sentinel, .listed, .data, .data, .data, .data, .pinned], laidTests := true, laidLooks := .later }
def ParserBracketsUptoCardSaid : Prop := Claim7.holds Tryz.pinned (.plain (OpenSpec.upto parserBracketsSpec)) parserBracketsUptoCard

/-- THE SECOND FORM's CARD OF 'chaperonlaw13.ParserFirst'. -/
def parserFirstUptoCard : Claim7 := { stood := { row := parserFirstUptoRow, standIns := [], harness := (true, "d8a73ad25984c36d95683886dc0c2c8e02118aeb96ce594dba69b0fe8f55d25d"), looks := true }, kinds := [], alts := [], laidByText := true, laidKinds := [.data, .data, .data, .data, .sentinel, .sentinel, .listed, .data, .data, .data, .data, .pinned], laidTests := true, laidLooks := .later }
def ParserFirstUptoCardSaid : Prop := Claim7.holds Tryz.pinned (.plain (OpenSpec.upto parserFirstSpec)) parserFirstUptoCard

/-- THE SECOND FORM's CARD OF 'chaperonlaw13.ParserMore'. -/
def parserMoreUptoCard : Claim7 := { stood := { row := parserMoreUptoRow, standIns := [], harness := (true, "d8a73ad25984c36d95683886dc0c2c8e02118aeb96ce594dba69b0fe8f55d25d"), looks := true }, kinds := [], alts := [], laidByText := true, laidKinds := [.data, .data, .data, .data, .sentinel, .sentinel, .listed, .data, .data, .data, .data, .pinned], laidTests := true, laidLooks := .later }
def ParserMoreUptoCardSaid : Prop := Claim7.holds Tryz.pinned (.plain (OpenSpec.upto parserMoreSpec)) parserMoreUptoCard
end Rows
end Go.Proofs.YtfkmnpgpfmkjaaaGreatDoor
