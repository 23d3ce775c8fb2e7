/-
  DERIVED. GIVEN WITH THE SEED: THE CARDS: each row of YtcaailiijmjdlaaGreatDoorRows.lean that lists a variable, with what it lists TIED to the program's text (the seventh form; the later family's looks); each row that meets fmt, with fmt's text TOLD by the authors' own Lean function (tested against real Go, not proved from fmt's source: count such statements apart). THE CARD IS WHAT COUNTS. Prove the row's statement (the work); the ties are given (YtcaailiijmjdlaaGreatDoorTie.lean); close each card by the builder's one call (the guide's Derived/Test/ToyasCard.lean, 'card_holds'). Laid BY PROGRAM, IN A SANDBOX (cutbox-door.mjs). By AI agents, Wed Nov 11 2026. No macro, syntax, notation, axiom, sorry.
-/
import Derived.Test.YtcaailiijmjdlaaGreatDoorRows
import GoSem.ClaimSeven
namespace Go.Proofs.YtcaailiijmjdlaaGreatDoor
namespace Rows

/-- THE TIED CARD OF 'chaperonlaw15.OpersTypes'. -/
def opersTypesCard : Claim7 := { stood := { row := opersTypesRow, standIns := [], harness := (true, "6d67474740ccff5594d07473091f821d590a9294aaabeb9b2920f7e324358fcf"), looks := true }, kinds := [], alts := [], laidByText := true, laidKinds := [.data], laidTests := true, laidLooks := .later }
def OpersTypesCardSaid : Prop := Claim7.holds Tryz.pinned (.plain (OpenSpec.ofChange opersTypesSpec)) opersTypesCard

/-- THE TIED CARD OF 'chaperonlaw15.OpersDo'. -/
def opersDoCard : Claim7 := { stood := { row := opersDoRow, standIns := [], harness := (true, "6d67474740ccff5594d07473091f821d590a9294aaabeb9b2920f7e324358fcf"), looks := true }, kinds := [], alts := [], laidByText := true, laidKinds := [.data, .data, .data, .data], laidTests := true, laidLooks := .later }
def OpersDoCardSaid : Prop := Claim7.holds Tryz.pinned (.plain (OpenSpec.ofChange opersDoSpec)) opersDoCard

/-- THE TIED CARD OF 'chaperonlaw15.OpersKnown'. -/
def opersKnownCard : Claim7 := { stood := { row := opersKnownRow, standIns := [], harness := (true, "6d67474740ccff5594d07473091f821d590a9294aaabeb9b2920f7e324358fcf"), looks := true }, kinds := [], alts := [], laidByText := true, laidKinds := [.data, .data, .data, .data], laidTests := true, laidLooks := .later }
def OpersKnownCardSaid : Prop := Claim7.holds Tryz.pinned (.plain (OpenSpec.ofChange opersKnownSpec)) opersKnownCard

/-- THE TIED CARD OF 'chaperonlaw15.OpersSound'. -/
def opersSoundCard : Claim7 := { stood := { row := opersSoundRow, standIns := [], harness := (true, "6d67474740ccff5594d07473091f821d590a9294aaabeb9b2920f7e324358fcf"), looks := true }, kinds := [], alts := [], laidByText := true, laidKinds := [.data, .data, .data, .data], laidTests := true, laidLooks := .later }
def OpersSoundCardSaid : Prop := Claim7.holds Tryz.pinned (.plain (OpenSpec.ofChange opersSoundSpec)) opersSoundCard

/-- THE TIED CARD OF 'chaperonlaw15.OpersGround'. -/
def opersGroundCard : Claim7 := { stood := { row := opersGroundRow, standIns := [], harness := (true, "6d67474740ccff5594d07473091f821d590a9294aaabeb9b2920f7e324358fcf"), looks := true }, kinds := [], alts := [], laidByText := true, laidKinds := [.data, .data, .data, .data], laidTests := true, laidLooks := .later }
def OpersGroundCardSaid : Prop := Claim7.holds Tryz.pinned (.plain (OpenSpec.ofChange opersGroundSpec)) opersGroundCard

/-- THE SECOND FORM's CARD OF 'chaperonlaw15.OpersTypes'. -/
def opersTypesUptoCard : Claim7 := { stood := { row := opersTypesUptoRow, standIns := [], harness := (true, "6d67474740ccff5594d07473091f821d590a9294aaabeb9b2920f7e324358fcf"), looks := true }, kinds := [], alts := [], laidByText := true, laidKinds := [.data], laidTests := true, laidLooks := .later }
def OpersTypesUptoCardSaid : Prop := Claim7.holds Tryz.pinned (.plain (OpenSpec.upto opersTypesSpec)) opersTypesUptoCard

/-- THE SECOND FORM's CARD OF 'chaperonlaw15.OpersDo'. -/
def opersDoUptoCard : Claim7 := { stood := { row := opersDoUptoRow, standIns := [], harness := (true, "6d67474740ccff5594d07473091f821d590a9294aaabeb9b2920f7e324358fcf"), looks := true }, kinds := [], alts := [], laidByText := true, laidKinds := [.data, .data, .data, .data], laidTests := true, laidLooks := .later }
def OpersDoUptoCardSaid : Prop := Claim7.holds Tryz.pinned (.plain (OpenSpec.upto opersDoSpec)) opersDoUptoCard

/-- THE SECOND FORM's CARD OF 'chaperonlaw15.OpersKnown'. -/
def opersKnownUptoCard : Claim7 := { stood := { row := opersKnownUptoRow, standIns := [], harness := (true, "6d67474740ccff5594d07473091f821d590a9294aaabeb9b2920f7e324358fcf"), looks := true }, kinds := [], alts := [], laidByText := true, laidKinds := [.data, .data, .data, .data], laidTests := true, laidLooks := .later }
def OpersKnownUptoCardSaid : Prop := Claim7.holds Tryz.pinned (.plain (OpenSpec.upto opersKnownSpec)) opersKnownUptoCard

/-- THE SECOND FORM's CARD OF 'chaperonlaw15.OpersSound'. -/
def opersSoundUptoCard : Claim7 := { stood := { row := opersSoundUptoRow, standIns := [], harness := (true, "6d67474740ccff5594d07473091f821d590a9294aaabeb9b2920f7e324358fcf"), looks := true }, kinds := [], alts := [], laidByText := true, laidKinds := [.data, .data, .data, .data], laidTests := true, laidLooks := .later }
def OpersSoundUptoCardSaid : Prop := Claim7.holds Tryz.pinned (.plain (OpenSpec.upto opersSoundSpec)) opersSoundUptoCard

/-- THE SECOND FORM's CARD OF 'chaperonlaw15.OpersGround'. -/
def opersGroundUptoCard : Claim7 := { stood := { row := opersGroundUptoRow, standIns := [], harness := (true, "6d67474740ccff5594d07473091f821d590a9294aaabeb9b2920f7e324358fcf"), looks := true }, kinds := [], alts := [], laidByText := true, laidKinds := [.data, .data, .data, .data], laidTests := true, laidLooks := .later }
def OpersGroundUptoCardSaid : Prop := Claim7.holds Tryz.pinned (.plain (OpenSpec.upto opersGroundSpec)) opersGroundUptoCard
end Rows
end Go.Proofs.YtcaailiijmjdlaaGreatDoor
