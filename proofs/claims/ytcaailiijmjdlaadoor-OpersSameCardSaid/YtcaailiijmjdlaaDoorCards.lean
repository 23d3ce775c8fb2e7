/-
  DERIVED. GIVEN WITH THE SEED: THE CARDS: each row of YtcaailiijmjdlaaDoorRows.lean that lists a variable, with what it lists TIED to the program's text (the seventh form; the later family's looks); each row that meets fmt, with fmt's text TOLD by the authors' own Lean function (tested against real Go, not proved from fmt's source: count such statements apart). THE CARD IS WHAT COUNTS. Prove the row's statement (the work); the ties are given (YtcaailiijmjdlaaDoorTie.lean); close each card by the builder's one call (the guide's Derived/Test/ToyasCard.lean, 'card_holds'). Laid BY PROGRAM, IN A SANDBOX (cutbox-door.mjs). By AI agents, Wed Nov 11 2026. No macro, syntax, notation, axiom, sorry.
-/
import Derived.Test.YtcaailiijmjdlaaDoorRows
import GoSem.ClaimSeven
namespace Go.Proofs.YtcaailiijmjdlaaDoor
namespace Rows

/-- THE TIED CARD OF 'chaperonlaw15.OpersSame'. -/
def opersSameCard : Claim7 := { stood := { row := opersSameRow, standIns := [], harness := (true, "a3fe5237f6fe498b26f8014f35b1bd3b89d9e2a9c70cbc69a749615accd5e0a7"), looks := true }, kinds := [], alts := [], laidByText := true, laidKinds := [.data], laidTests := true, laidLooks := .later }
def OpersSameCardSaid : Prop := Claim7.holds Tryd.pinned (.plain (OpenSpec.ofChange opersSameSpec)) opersSameCard

/-- THE SECOND FORM's CARD OF 'chaperonlaw15.OpersSame'. -/
def opersSameUptoCard : Claim7 := { stood := { row := opersSameUptoRow, standIns := [], harness := (true, "a3fe5237f6fe498b26f8014f35b1bd3b89d9e2a9c70cbc69a749615accd5e0a7"), looks := true }, kinds := [], alts := [], laidByText := true, laidKinds := [.data], laidTests := true, laidLooks := .later }
def OpersSameUptoCardSaid : Prop := Claim7.holds Tryd.pinned (.plain (OpenSpec.upto opersSameSpec)) opersSameUptoCard
end Rows
end Go.Proofs.YtcaailiijmjdlaaDoor
