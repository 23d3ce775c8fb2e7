/-
  DERIVED. GIVEN WITH THE SEED: THE CARDS: each row of YtdceafncncgfbaaDoorRows.lean that lists a variable, with what it lists TIED to the program's text (the seventh form; the later family's looks); each row that meets fmt, with fmt's text TOLD by the authors' own Lean function (tested against real Go, not proved from fmt's source: count such statements apart). THE CARD IS WHAT COUNTS. Prove the row's statement (the work); the ties are given (YtdceafncncgfbaaDoorTie.lean); close each card by the builder's one call (the guide's Derived/Test/ToyasCard.lean, 'card_holds'). Laid BY PROGRAM, IN A SANDBOX (cutbox-door.mjs). By AI agents, Wed Nov 11 2026. No macro, syntax, notation, axiom, sorry.
-/
import Derived.Test.YtdceafncncgfbaaDoorRows
import GoSem.ClaimSeven
namespace Go.Proofs.YtdceafncncgfbaaDoor
namespace Rows

/-- THE TIED CARD OF 'chaperonlaw16.CoerceKnown'. -/
def coerceKnownCard : Claim7 := { stood := { row := coerceKnownRow, standIns := [], harness := (true, "e4f411214dcc996d65d3ff84df4faf5003fc229823f8858938e2fd71be5501c5"), looks := true }, kinds := [], alts := [], laidByText := true, laidKinds := [.data], laidTests := true, laidLooks := .later }
def CoerceKnownCardSaid : Prop := Claim7.holds Tryd.pinned (.plain (OpenSpec.ofChange coerceKnownSpec)) coerceKnownCard

/-- THE TIED CARD OF 'chaperonlaw16.CoerceShort'. -/
def coerceShortCard : Claim7 := { stood := { row := coerceShortRow, standIns := [], harness := (true, "e4f411214dcc996d65d3ff84df4faf5003fc229823f8858938e2fd71be5501c5"), looks := true }, kinds := [], alts := [], laidByText := true, laidKinds := [.data], laidTests := true, laidLooks := .later }
def CoerceShortCardSaid : Prop := Claim7.holds Tryd.pinned (.plain (OpenSpec.ofChange coerceShortSpec)) coerceShortCard

/-- THE TIED CARD OF 'chaperonlaw16.CoerceShrinks'. -/
def coerceShrinksCard : Claim7 := { stood := { row := coerceShrinksRow, standIns := [], harness := (true, "e4f411214dcc996d65d3ff84df4faf5003fc229823f8858938e2fd71be5501c5"), looks := true }, kinds := [], alts := [], laidByText := true, laidKinds := [.data], laidTests := true, laidLooks := .later }
def CoerceShrinksCardSaid : Prop := Claim7.holds Tryd.pinned (.plain (OpenSpec.ofChange coerceShrinksSpec)) coerceShrinksCard

/-- THE SECOND FORM's CARD OF 'chaperonlaw16.CoerceKnown'. -/
def coerceKnownUptoCard : Claim7 := { stood := { row := coerceKnownUptoRow, standIns := [], harness := (true, "e4f411214dcc996d65d3ff84df4faf5003fc229823f8858938e2fd71be5501c5"), looks := true }, kinds := [], alts := [], laidByText := true, laidKinds := [.data], laidTests := true, laidLooks := .later }
def CoerceKnownUptoCardSaid : Prop := Claim7.holds Tryd.pinned (.plain (OpenSpec.upto coerceKnownSpec)) coerceKnownUptoCard

/-- THE SECOND FORM's CARD OF 'chaperonlaw16.CoerceShort'. -/
def coerceShortUptoCard : Claim7 := { stood := { row := coerceShortUptoRow, standIns := [], harness := (true, "e4f411214dcc996d65d3ff84df4faf5003fc229823f8858938e2fd71be5501c5"), looks := true }, kinds := [], alts := [], laidByText := true, laidKinds := [.data], laidTests := true, laidLooks := .later }
def CoerceShortUptoCardSaid : Prop := Claim7.holds Tryd.pinned (.plain (OpenSpec.upto coerceShortSpec)) coerceShortUptoCard

/-- THE SECOND FORM's CARD OF 'chaperonlaw16.CoerceShrinks'. -/
def coerceShrinksUptoCard : Claim7 := { stood := { row := coerceShrinksUptoRow, standIns := [], harness := (true, "e4f411214dcc996d65d3ff84df4faf5003fc229823f8858938e2fd71be5501c5"), looks := true }, kinds := [], alts := [], laidByText := true, laidKinds := [.data], laidTests := true, laidLooks := .later }
def CoerceShrinksUptoCardSaid : Prop := Claim7.holds Tryd.pinned (.plain (OpenSpec.upto coerceShrinksSpec)) coerceShrinksUptoCard
end Rows
end Go.Proofs.YtdceafncncgfbaaDoor
