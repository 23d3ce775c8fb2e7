/-
  DERIVED. GIVEN WITH THE SEED: THE CARDS: each row of YtnjgagbblkjjeaaGreatDoorRows.lean that lists a variable, with what it lists TIED to the program's text (the seventh form; the later family's looks); each row that meets fmt, with fmt's text TOLD by the authors' own Lean function (tested against real Go, not proved from fmt's source: count such statements apart). THE CARD IS WHAT COUNTS. Prove the row's statement (the work); the ties are given (YtnjgagbblkjjeaaGreatDoorTie.lean); close each card by the builder's one call (the guide's Derived/Test/ToyasCard.lean, 'card_holds'). Laid BY PROGRAM, IN A SANDBOX (cutbox-door.mjs). By AI agents, Wed Nov 11 2026. No macro, syntax, notation, axiom, sorry.
-/
import Derived.Test.YtnjgagbblkjjeaaGreatDoorRows
import GoSem.ClaimSeven
namespace Go.Proofs.YtnjgagbblkjjeaaGreatDoor
namespace Rows

/-- THE TIED CARD OF 'chaperonlaw06.SubtypeTells'. -/
def subtypeTellsCard : Claim7 := { stood := { row := subtypeTellsRow, standIns := [], harness := (true, "bdbd7fcbce7372036bea603601fedb58daf519f3e48a488b5acf6948b669a755"), looks := false }, kinds := [], alts := [], laidByText := true, laidKinds := [.data, .listed, .data, .data, .pinned], laidTests := true, laidLooks := .later }
def SubtypeTellsCardSaid : Prop := Claim7.holds Tryz.pinned (.plain (OpenSpec.ofChange subtypeTellsSpec)) subtypeTellsCard

/-- THE TIED CARD OF 'chaperonlaw07.ConsistTells'. -/
def consistTellsCard : Claim7 := { stood := { row := consistTellsRow, standIns := [], harness := (true, "bdbd7fcbce7372036bea603601fedb58daf519f3e48a488b5acf6948b669a755"), looks := false }, kinds := [], alts := [], laidByText := true, laidKinds := [.data, .listed, .data, .data, .pinned], laidTests := true, laidLooks := .later }
def ConsistTellsCardSaid : Prop := Claim7.holds Tryz.pinned (.plain (OpenSpec.ofChange consistTellsSpec)) consistTellsCard

/-- THE TIED CARD OF 'chaperonlaw07.ConsistGreatest'. -/
def consistGreatestCard : Claim7 := { stood := { row := consistGreatestRow, standIns := [], harness := (true, "bdbd7fcbce7372036bea603601fedb58daf519f3e48a488b5acf6948b669a755"), looks := false }, kinds := [], alts := [], laidByText := true, laidKinds := [.data, .listed, .data, .data, .pinned], laidTests := true, laidLooks := .later }
def ConsistGreatestCardSaid : Prop := Claim7.holds Tryz.pinned (.plain (OpenSpec.ofChange consistGreatestSpec)) consistGreatestCard

/-- THE TIED CARD OF 'chaperonlaw07.ConsistLooser'. -/
def consistLooserCard : Claim7 := { stood := { row := consistLooserRow, standIns := [], harness := (true, "bdbd7fcbce7372036bea603601fedb58daf519f3e48a488b5acf6948b669a755"), looks := false }, kinds := [], alts := [], laidByText := true, laidKinds := [.data, .listed, .data, .data, .pinned], laidTests := true, laidLooks := .later }
def ConsistLooserCardSaid : Prop := Claim7.holds Tryz.pinned (.plain (OpenSpec.ofChange consistLooserSpec)) consistLooserCard

/-- THE TIED CARD OF 'chaperonlaw08.PreciseTells'. -/
def preciseTellsCard : Claim7 := { stood := { row := preciseTellsRow, standIns := [], harness := (true, "bdbd7fcbce7372036bea603601fedb58daf519f3e48a488b5acf6948b669a755"), looks := false }, kinds := [], alts := [], laidByText := true, laidKinds := [.data, .listed, .data, .data, .pinned], laidTests := true, laidLooks := .later }
def PreciseTellsCardSaid : Prop := Claim7.holds Tryz.pinned (.plain (OpenSpec.ofChange preciseTellsSpec)) preciseTellsCard

/-- THE TIED CARD OF 'chaperonlaw08.PreciseKnown'. -/
def preciseKnownCard : Claim7 := { stood := { row := preciseKnownRow, standIns := [], harness := (true, "bdbd7fcbce7372036bea603601fedb58daf519f3e48a488b5acf6948b669a755"), looks := false }, kinds := [], alts := [], laidByText := true, laidKinds := [.data, .listed, .data, .data, .pinned], laidTests := true, laidLooks := .later }
def PreciseKnownCardSaid : Prop := Claim7.holds Tryz.pinned (.plain (OpenSpec.ofChange preciseKnownSpec)) preciseKnownCard

/-- THE TIED CARD OF 'chaperonlaw08.PreciseGoes'. -/
def preciseGoesCard : Claim7 := { stood := { row := preciseGoesRow, standIns := [], harness := (true, "bdbd7fcbce7372036bea603601fedb58daf519f3e48a488b5acf6948b669a755"), looks := false }, kinds := [], alts := [], laidByText := true, laidKinds := [.data, .listed, .data, .data, .pinned], laidTests := true, laidLooks := .later }
def PreciseGoesCardSaid : Prop := Claim7.holds Tryz.pinned (.plain (OpenSpec.ofChange preciseGoesSpec)) preciseGoesCard

/-- THE TIED CARD OF 'chaperonlaw08.PreciseMembers'. -/
def preciseMembersCard : Claim7 := { stood := { row := preciseMembersRow, standIns := [], harness := (true, "bdbd7fcbce7372036bea603601fedb58daf519f3e48a488b5acf6948b669a755"), looks := false }, kinds := [], alts := [], laidByText := true, laidKinds := [.data, .listed, .data, .data, .pinned], laidTests := true, laidLooks := .later }
def PreciseMembersCardSaid : Prop := Claim7.holds Tryz.pinned (.plain (OpenSpec.ofChange preciseMembersSpec)) preciseMembersCard

/-- THE TIED CARD OF 'chaperonlaw08.PreciseGreatest'. -/
def preciseGreatestCard : Claim7 := { stood := { row := preciseGreatestRow, standIns := [], harness := (true, "bdbd7fcbce7372036bea603601fedb58daf519f3e48a488b5acf6948b669a755"), looks := false }, kinds := [], alts := [], laidByText := true, laidKinds := [.data, .listed, .data, .data, .pinned], laidTests := true, laidLooks := .later }
def PreciseGreatestCardSaid : Prop := Claim7.holds Tryz.pinned (.plain (OpenSpec.ofChange preciseGreatestSpec)) preciseGreatestCard

/-- THE SECOND FORM's CARD OF 'chaperonlaw06.SubtypeTells'. -/
def subtypeTellsUptoCard : Claim7 := { stood := { row := subtypeTellsUptoRow, standIns := [], harness := (true, "bdbd7fcbce7372036bea603601fedb58daf519f3e48a488b5acf6948b669a755"), looks := false }, kinds := [], alts := [], laidByText := true, laidKinds := [.data, .listed, .data, .data, .pinned], laidTests := true, laidLooks := .later }
def SubtypeTellsUptoCardSaid : Prop := Claim7.holds Tryz.pinned (.plain (OpenSpec.upto subtypeTellsSpec)) subtypeTellsUptoCard

/-- THE SECOND FORM's CARD OF 'chaperonlaw07.ConsistTells'. -/
def consistTellsUptoCard : Claim7 := { stood := { row := consistTellsUptoRow, standIns := [], harness := (true, "bdbd7fcbce7372036bea603601fedb58daf519f3e48a488b5acf6948b669a755"), looks := false }, kinds := [], alts := [], laidByText := true, laidKinds := [.data, .listed, .data, .data, .pinned], laidTests := true, laidLooks := .later }
def ConsistTellsUptoCardSaid : Prop := Claim7.holds Tryz.pinned (.plain (OpenSpec.upto consistTellsSpec)) consistTellsUptoCard

/-- THE SECOND FORM's CARD OF 'chaperonlaw07.ConsistGreatest'. -/
def consistGreatestUptoCard : Claim7 := { stood := { row := consistGreatestUptoRow, standIns := [], harness := (true, "bdbd7fcbce7372036bea603601fedb58daf519f3e48a488b5acf6948b669a755"), looks := false }, kinds := [], alts := [], laidByText := true, laidKinds := [.data, .listed, .data, .data, .pinned], laidTests := true, laidLooks := .later }
def ConsistGreatestUptoCardSaid : Prop := Claim7.holds Tryz.pinned (.plain (OpenSpec.upto consistGreatestSpec)) consistGreatestUptoCard

/-- THE SECOND FORM's CARD OF 'chaperonlaw07.ConsistLooser'. -/
def consistLooserUptoCard : Claim7 := { stood := { row := consistLooserUptoRow, standIns := [], harness := (true, "bdbd7fcbce7372036bea603601fedb58daf519f3e48a488b5acf6948b669a755"), looks := false }, kinds := [], alts := [], laidByText := true, laidKinds := [.data, .listed, .data, .data, .pinned], laidTests := true, laidLooks := .later }
def ConsistLooserUptoCardSaid : Prop := Claim7.holds Tryz.pinned (.plain (OpenSpec.upto consistLooserSpec)) consistLooserUptoCard

/-- THE SECOND FORM's CARD OF 'chaperonlaw08.PreciseTells'. -/
def preciseTellsUptoCard : Claim7 := { stood := { row := preciseTellsUptoRow, standIns := [], harness := (true, "bdbd7fcbce7372036bea603601fedb58daf519f3e48a488b5acf6948b669a755"), looks := false }, kinds := [], alts := [], laidByText := true, laidKinds := [.data, .listed, .data, .data, .pinned], laidTests := true, laidLooks := .later }
def PreciseTellsUptoCardSaid : Prop := Claim7.holds Tryz.pinned (.plain (OpenSpec.upto preciseTellsSpec)) preciseTellsUptoCard

/-- THE SECOND FORM's CARD OF 'chaperonlaw08.PreciseKnown'. -/
def preciseKnownUptoCard : Claim7 := { stood := { row := preciseKnownUptoRow, standIns := [], harness := (true, "bdbd7fcbce7372036bea603601fedb58daf519f3e48a488b5acf6948b669a755"), looks := false }, kinds := [], alts := [], laidByText := true, laidKinds := [.data, .listed, .data, .data, .pinned], laidTests := true, laidLooks := .later }
def PreciseKnownUptoCardSaid : Prop := Claim7.holds Tryz.pinned (.plain (OpenSpec.upto preciseKnownSpec)) preciseKnownUptoCard

/-- THE SECOND FORM's CARD OF 'chaperonlaw08.PreciseGoes'. -/
def preciseGoesUptoCard : Claim7 := { stood := { row := preciseGoesUptoRow, standIns := [], harness := (true, "bdbd7fcbce7372036bea603601fedb58daf519f3e48a488b5acf6948b669a755"), looks := false }, kinds := [], alts := [], laidByText := true, laidKinds := [.data, .listed, .data, .data, .pinned], laidTests := true, laidLooks := .later }
def PreciseGoesUptoCardSaid : Prop := Claim7.holds Tryz.pinned (.plain (OpenSpec.upto preciseGoesSpec)) preciseGoesUptoCard

/-- THE SECOND FORM's CARD OF 'chaperonlaw08.PreciseMembers'. -/
def preciseMembersUptoCard : Claim7 := { stood := { row := preciseMembersUptoRow, standIns := [], harness := (true, "bdbd7fcbce7372036bea603601fedb58daf519f3e48a488b5acf6948b669a755"), looks := false }, kinds := [], alts := [], laidByText := true, laidKinds := [.data, .listed, .data, .data, .pinned], laidTests := true, laidLooks := .later }
def PreciseMembersUptoCardSaid : Prop := Claim7.holds Tryz.pinned (.plain (OpenSpec.upto preciseMembersSpec)) preciseMembersUptoCard

/-- THE SECOND FORM's CARD OF 'chaperonlaw08.PreciseGreatest'. -/
def preciseGreatestUptoCard : Claim7 := { stood := { row := preciseGreatestUptoRow, standIns := [], harness := (true, "bdbd7fcbce7372036bea603601fedb58daf519f3e48a488b5acf6948b669a755"), looks := false }, kinds := [], alts := [], laidByText := true, laidKinds := [.data, .listed, .data, .data, .pinned], laidTests := true, laidLooks := .later }
def PreciseGreatestUptoCardSaid : Prop := Claim7.holds Tryz.pinned (.plain (OpenSpec.upto preciseGreatestSpec)) preciseGreatestUptoCard
end Rows
end Go.Proofs.YtnjgagbblkjjeaaGreatDoor
