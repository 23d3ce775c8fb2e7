/-
  DERIVED. GIVEN WITH THE SEED: THE CARDS: each row of YtjdkegfckkbpeaaGreatDoorRows.lean that lists a variable, with what it lists TIED to the program's text (the seventh form; the later family's looks); each row that meets fmt, with fmt's text TOLD by the authors' own Lean function (tested against real Go, not proved from fmt's source: count such statements apart). THE CARD IS WHAT COUNTS. Prove the row's statement (the work); the ties are given (YtjdkegfckkbpeaaGreatDoorTie.lean); close each card by the builder's one call (the guide's Derived/Test/ToyasCard.lean, 'card_holds'). Laid BY PROGRAM, IN A SANDBOX (cutbox-door.mjs). By AI agents, Wed Nov 11 2026. No macro, syntax, notation, axiom, sorry.
-/
import Derived.Test.YtjdkegfckkbpeaaGreatDoorRows
import GoSem.ClaimSeven
namespace Go.Proofs.YtjdkegfckkbpeaaGreatDoor
namespace Rows

/-- THE TIED CARD OF 'chaperonlaw09.SitesChecks'. -/
def sitesChecksCard : Claim7 := { stood := { row := sitesChecksRow, standIns := [], harness := (true, "fe2df56de10f3908a3111b484183050e3aecf5c6f7046263bc09063e3d76f540"), looks := false }, kinds := [], alts := [], laidByText := true, laidKinds := [.data, .listed, .data, .data, .pinned], laidTests := true, laidLooks := .later }
def SitesChecksCardSaid : Prop := Claim7.holds Tryz.pinned (.plain (OpenSpec.ofChange sitesChecksSpec)) sitesChecksCard

/-- THE TIED CARD OF 'chaperonlaw09.SitesTells'. -/
def sitesTellsCard : Claim7 := { stood := { row := sitesTellsRow, standIns := [], harness := (true, "fe2df56de10f3908a3111b484183050e3aecf5c6f7046263bc09063e3d76f540"), looks := false }, kinds := [], alts := [], laidByText := true, laidKinds := [.data, .data, .data, .data, .listed, .data, .data, .data, .pinned], laidTests := true, laidLooks := .later }
def SitesTellsCardSaid : Prop := Claim7.holds Tryz.pinned (.plain (OpenSpec.ofChange sitesTellsSpec)) sitesTellsCard

/-- THE SECOND FORM's CARD OF 'chaperonlaw09.SitesChecks'. -/
def sitesChecksUptoCard : Claim7 := { stood := { row := sitesChecksUptoRow, standIns := [], harness := (true, "fe2df56de10f3908a3111b484183050e3aecf5c6f7046263bc09063e3d76f540"), looks := false }, kinds := [], alts := [], laidByText := true, laidKinds := [.data, .listed, .data, .data, .pinned], laidTests := true, laidLooks := .later }
def SitesChecksUptoCardSaid : Prop := Claim7.holds Tryz.pinned (.plain (OpenSpec.upto sitesChecksSpec)) sitesChecksUptoCard

/-- THE SECOND FORM's CARD OF 'chaperonlaw09.SitesTells'. -/
def sitesTellsUptoCard : Claim7 := { stood := { row := sitesTellsUptoRow, standIns := [], harness := (true, "fe2df56de10f3908a3111b484183050e3aecf5c6f7046263bc09063e3d76f540"), looks := false }, kinds := [], alts := [], laidByText := true, laidKinds := [.data, .data, .data, .data, .listed, .data, .data, .data, .pinned], laidTests := true, laidLooks := .later }
def SitesTellsUptoCardSaid : Prop := Claim7.holds Tryz.pinned (.plain (OpenSpec.upto sitesTellsSpec)) sitesTellsUptoCard
end Rows
end Go.Proofs.YtjdkegfckkbpeaaGreatDoor
