/-
  DERIVED. GIVEN WITH THE SEED: THE CARDS: each row of YtpoaokkgjgkfcaaDoorRows.lean that lists a variable, with what it lists TIED to the program's text (the seventh form; the later family's looks); each row that meets fmt, with fmt's text TOLD by the authors' own Lean function (tested against real Go, not proved from fmt's source: count such statements apart). THE CARD IS WHAT COUNTS. Prove the row's statement (the work); the ties are given (YtpoaokkgjgkfcaaDoorTie.lean); close each card by the builder's one call (the guide's Derived/Test/ToyasCard.lean, 'card_holds'). Laid BY PROGRAM, IN A SANDBOX (cutbox-door.mjs). By AI agents, Wed Nov 11 2026. No macro, syntax, notation, axiom, sorry.
-/
import Derived.Test.YtpoaokkgjgkfcaaDoorRows
import GoSem.ClaimSeven
namespace Go.Proofs.YtpoaokkgjgkfcaaDoor
namespace Rows

/-- THE TIED CARD OF 'chaperonlaw01.RealsTurns'. -/
def realsTurnsCard : Claim7 := { stood := { row := realsTurnsRow, standIns := [], harness := (true, "3500169ace1343e232f91b13985f52366e2178a26b71e210fe3a85b1f245c3cd"), looks := false }, kinds := [], alts := [], laidByText := true, laidKinds := [.data, .data, .data], laidTests := true, laidLooks := .later }
def RealsTurnsCardSaid : Prop := Claim7.holds Tryd.pinned (.plain (OpenSpec.ofChange realsTurnsSpec)) realsTurnsCard

/-- THE TIED CARD OF 'chaperonlaw01.RealsKnown'. -/
def realsKnownCard : Claim7 := { stood := { row := realsKnownRow, standIns := [], harness := (true, "3500169ace1343e232f91b13985f52366e2178a26b71e210fe3a85b1f245c3cd"), looks := false }, kinds := [], alts := [], laidByText := true, laidKinds := [.data, .data, .data], laidTests := true, laidLooks := .later }
def RealsKnownCardSaid : Prop := Claim7.holds Tryd.pinned (.plain (OpenSpec.ofChange realsKnownSpec)) realsKnownCard

/-- THE TIED CARD OF 'chaperonlaw01.RealsRing'. -/
def realsRingCard : Claim7 := { stood := { row := realsRingRow, standIns := [], harness := (true, "3500169ace1343e232f91b13985f52366e2178a26b71e210fe3a85b1f245c3cd"), looks := false }, kinds := [], alts := [], laidByText := true, laidKinds := [.data, .data, .data], laidTests := true, laidLooks := .later }
def RealsRingCardSaid : Prop := Claim7.holds Tryd.pinned (.plain (OpenSpec.ofChange realsRingSpec)) realsRingCard

/-- THE TIED CARD OF 'chaperonlaw01.RealsNought'. -/
def realsNoughtCard : Claim7 := { stood := { row := realsNoughtRow, standIns := [], harness := (true, "3500169ace1343e232f91b13985f52366e2178a26b71e210fe3a85b1f245c3cd"), looks := false }, kinds := [], alts := [], laidByText := true, laidKinds := [.data, .data, .data], laidTests := true, laidLooks := .later }
def RealsNoughtCardSaid : Prop := Claim7.holds Tryd.pinned (.plain (OpenSpec.ofChange realsNoughtSpec)) realsNoughtCard

/-- THE SECOND FORM's CARD OF 'chaperonlaw01.RealsTurns'. -/
def realsTurnsUptoCard : Claim7 := { stood := { row := realsTurnsUptoRow, standIns := [], harness := (true, "3500169ace1343e232f91b13985f52366e2178a26b71e210fe3a85b1f245c3cd"), looks := false }, kinds := [], alts := [], laidByText := true, laidKinds := [.data, .data, .data], laidTests := true, laidLooks := .later }
def RealsTurnsUptoCardSaid : Prop := Claim7.holds Tryd.pinned (.plain (OpenSpec.upto realsTurnsSpec)) realsTurnsUptoCard

/-- THE SECOND FORM's CARD OF 'chaperonlaw01.RealsKnown'. -/
def realsKnownUptoCard : Claim7 := { stood := { row := realsKnownUptoRow, standIns := [], harness := (true, "3500169ace1343e232f91b13985f52366e2178a26b71e210fe3a85b1f245c3cd"), looks := false }, kinds := [], alts := [], laidByText := true, laidKinds := [.data, .data, .data], laidTests := true, laidLooks := .later }
def RealsKnownUptoCardSaid : Prop := Claim7.holds Tryd.pinned (.plain (OpenSpec.upto realsKnownSpec)) realsKnownUptoCard

/-- THE SECOND FORM's CARD OF 'chaperonlaw01.RealsRing'. -/
def realsRingUptoCard : Claim7 := { stood := { row := realsRingUptoRow, standIns := [], harness := (true, "3500169ace1343e232f91b13985f52366e2178a26b71e210fe3a85b1f245c3cd"), looks := false }, kinds := [], alts := [], laidByText := true, laidKinds := [.data, .data, .data], laidTests := true, laidLooks := .later }
def RealsRingUptoCardSaid : Prop := Claim7.holds Tryd.pinned (.plain (OpenSpec.upto realsRingSpec)) realsRingUptoCard

/-- THE SECOND FORM's CARD OF 'chaperonlaw01.RealsNought'. -/
def realsNoughtUptoCard : Claim7 := { stood := { row := realsNoughtUptoRow, standIns := [], harness := (true, "3500169ace1343e232f91b13985f52366e2178a26b71e210fe3a85b1f245c3cd"), looks := false }, kinds := [], alts := [], laidByText := true, laidKinds := [.data, .data, .data], laidTests := true, laidLooks := .later }
def RealsNoughtUptoCardSaid : Prop := Claim7.holds Tryd.pinned (.plain (OpenSpec.upto realsNoughtSpec)) realsNoughtUptoCard
end Rows
end Go.Proofs.YtpoaokkgjgkfcaaDoor
