/-
  DERIVED. GIVEN WITH THE SEED: THE CARDS: each row of YtbjomddjbfgclaaGreatDoorRows.lean that lists a variable, with what it lists TIED to the program's text (the seventh form; the later family's looks); each row that meets fmt, with fmt's text TOLD by the authors' own Lean function (tested against real Go, not proved from fmt's source: count such statements apart). THE CARD IS WHAT COUNTS. Prove the row's statement (the work); the ties are given (YtbjomddjbfgclaaGreatDoorTie.lean); close each card by the builder's one call (the guide's Derived/Test/ToyasCard.lean, 'card_holds'). Laid BY PROGRAM, IN A SANDBOX (cutbox-door.mjs). By AI agents, Wed Nov 11 2026. No macro, syntax, notation, axiom, sorry.
-/
import Derived.Test.YtbjomddjbfgclaaGreatDoorRows
import GoSem.ClaimSeven
namespace Go.Proofs.YtbjomddjbfgclaaGreatDoor
namespace Rows

/-- THE TIED CARD OF 'chaperonlaw06.SubtypeTells'. -/
def subtypeTellsCard : Claim7 := { stood := { row := subtypeTellsRow, standIns := [], harness := (true, "8a7cb57481393a266774775aa52deb2aae4eba175a8a75033e5bab3b8a805a03"), looks := false }, kinds := [], alts := [], laidByText := true, laidKinds := [.data, .listed, .data, .data, .pinned], laidTests := true, laidLooks := .later }
def SubtypeTellsCardSaid : Prop := Claim7.holds Tryz.pinned (.plain (OpenSpec.ofChange subtypeTellsSpec)) subtypeTellsCard

/-- THE TIED CARD OF 'chaperonlaw07.ConsistTells'. -/
def consistTellsCard : Claim7 := { stood := { row := consistTellsRow, standIns := [], harness := (true, "8a7cb57481393a266774775aa52deb2aae4eba175a8a75033e5bab3b8a805a03"), looks := false }, kinds := [], alts := [], laidByText := true, laidKinds := [.data, .listed, .data, .data, .pinned], laidTests := true, laidLooks := .later }
def ConsistTellsCardSaid : Prop := Claim7.holds Tryz.pinned (.plain (OpenSpec.ofChange consistTellsSpec)) consistTellsCard

/-- THE TIED CARD OF 'chaperonlaw07.ConsistPlain'. -/
def consistPlainCard : Claim7 := { stood := { row := consistPlainRow, standIns := [], harness := (true, "8a7cb57481393a266774775aa52deb2aae4eba175a8a75033e5bab3b8a805a03"), looks := false }, kinds := [], alts := [], laidByText := true, laidKinds := [.data, .listed, .data, .data, .pinned], laidTests := true, laidLooks := .later }
def ConsistPlainCardSaid : Prop := Claim7.holds Tryz.pinned (.plain (OpenSpec.ofChange consistPlainSpec)) consistPlainCard

/-- THE TIED CARD OF 'chaperonlaw07.ConsistGreatest'. -/
def consistGreatestCard : Claim7 := { stood := { row := consistGreatestRow, standIns := [], harness := (true, "8a7cb57481393a266774775aa52deb2aae4eba175a8a75033e5bab3b8a805a03"), looks := false }, kinds := [], alts := [], laidByText := true, laidKinds := [.data, .listed, .data, .data, .pinned], laidTests := true, laidLooks := .later }
def ConsistGreatestCardSaid : Prop := Claim7.holds Tryz.pinned (.plain (OpenSpec.ofChange consistGreatestSpec)) consistGreatestCard

/-- THE SECOND FORM's CARD OF 'chaperonlaw06.SubtypeTells'. -/
def subtypeTellsUptoCard : Claim7 := { stood := { row := subtypeTellsUptoRow, standIns := [], harness := (true, "8a7cb57481393a266774775aa52deb2aae4eba175a8a75033e5bab3b8a805a03"), looks := false }, kinds := [], alts := [], laidByText := true, laidKinds := [.data, .listed, .data, .data, .pinned], laidTests := true, laidLooks := .later }
def SubtypeTellsUptoCardSaid : Prop := Claim7.holds Tryz.pinned (.plain (OpenSpec.upto subtypeTellsSpec)) subtypeTellsUptoCard

/-- THE SECOND FORM's CARD OF 'chaperonlaw07.ConsistTells'. -/
def consistTellsUptoCard : Claim7 := { stood := { row := consistTellsUptoRow, standIns := [], harness := (true, "8a7cb57481393a266774775aa52deb2aae4eba175a8a75033e5bab3b8a805a03"), looks := false }, kinds := [], alts := [], laidByText := true, laidKinds := [.data, .listed, .data, .data, .pinned], laidTests := true, laidLooks := .later }
def ConsistTellsUptoCardSaid : Prop := Claim7.holds Tryz.pinned (.plain (OpenSpec.upto consistTellsSpec)) consistTellsUptoCard

/-- THE SECOND FORM's CARD OF 'chaperonlaw07.ConsistPlain'. -/
def consistPlainUptoCard : Claim7 := { stood := { row := consistPlainUptoRow, standIns := [], harness := (true, "8a7cb57481393a266774775aa52deb2aae4eba175a8a75033e5bab3b8a805a03"), looks := false }, kinds := [], alts := [], laidByText := true, laidKinds := [.data, .listed, .data, .data, .pinned], laidTests := true, laidLooks := .later }
def ConsistPlainUptoCardSaid : Prop := Claim7.holds Tryz.pinned (.plain (OpenSpec.upto consistPlainSpec)) consistPlainUptoCard

/-- THE SECOND FORM's CARD OF 'chaperonlaw07.ConsistGreatest'. -/
def consistGreatestUptoCard : Claim7 := { stood := { row := consistGreatestUptoRow, standIns := [], harness := (true, "8a7cb57481393a266774775aa52deb2aae4eba175a8a75033e5bab3b8a805a03"), looks := false }, kinds := [], alts := [], laidByText := true, laidKinds := [.data, .listed, .data, .data, .pinned], laidTests := true, laidLooks := .later }
def ConsistGreatestUptoCardSaid : Prop := Claim7.holds Tryz.pinned (.plain (OpenSpec.upto consistGreatestSpec)) consistGreatestUptoCard
end Rows
end Go.Proofs.YtbjomddjbfgclaaGreatDoor
