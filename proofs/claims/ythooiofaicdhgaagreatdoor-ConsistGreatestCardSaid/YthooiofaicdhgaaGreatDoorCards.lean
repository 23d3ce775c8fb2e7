/-
  DERIVED. GIVEN WITH THE SEED: THE CARDS: each row of YthooiofaicdhgaaGreatDoorRows.lean that lists a variable, with what it lists TIED to the program's text (the seventh form; the later family's looks); each row that meets fmt, with fmt's text TOLD by the authors' own Lean function (tested against real Go, not proved from fmt's source: count such statements apart). THE CARD IS WHAT COUNTS. Prove the row's statement (the work); the ties are given (YthooiofaicdhgaaGreatDoorTie.lean); close each card by the builder's one call (the guide's Derived/Test/ToyasCard.lean, 'card_holds'). Laid BY PROGRAM, IN A SANDBOX (cutbox-door.mjs). By AI agents, Wed Nov 11 2026. No macro, syntax, notation, axiom, sorry.
-/
import Derived.Test.YthooiofaicdhgaaGreatDoorRows
import GoSem.ClaimSeven
namespace Go.Proofs.YthooiofaicdhgaaGreatDoor
namespace Rows

/-- THE TIED CARD OF 'chaperonlaw06.SubtypeTells'. -/
def subtypeTellsCard : Claim7 := { stood := { row := subtypeTellsRow, standIns := [], harness := (true, "4ca7941f33c3d2f93297472c495587d2aac2f16c99c9748c9e80191d3736b0f1"), looks := false }, kinds := [], alts := [], laidByText := true, laidKinds := [.data, .listed, .data, .data, .pinned], laidTests := true, laidLooks := .later }
def SubtypeTellsCardSaid : Prop := Claim7.holds Tryz.pinned (.plain (OpenSpec.ofChange subtypeTellsSpec)) subtypeTellsCard

/-- THE TIED CARD OF 'chaperonlaw07.ConsistTells'. -/
def consistTellsCard : Claim7 := { stood := { row := consistTellsRow, standIns := [], harness := (true, "4ca7941f33c3d2f93297472c495587d2aac2f16c99c9748c9e80191d3736b0f1"), looks := false }, kinds := [], alts := [], laidByText := true, laidKinds := [.data, .listed, .data, .data, .pinned], laidTests := true, laidLooks := .later }
def ConsistTellsCardSaid : Prop := Claim7.holds Tryz.pinned (.plain (OpenSpec.ofChange consistTellsSpec)) consistTellsCard

/-- THE TIED CARD OF 'chaperonlaw07.ConsistGreatest'. -/
def consistGreatestCard : Claim7 := { stood := { row := consistGreatestRow, standIns := [], harness := (true, "4ca7941f33c3d2f93297472c495587d2aac2f16c99c9748c9e80191d3736b0f1"), looks := false }, kinds := [], alts := [], laidByText := true, laidKinds := [.data, .listed, .data, .data, .pinned], laidTests := true, laidLooks := .later }
def ConsistGreatestCardSaid : Prop := Claim7.holds Tryz.pinned (.plain (OpenSpec.ofChange consistGreatestSpec)) consistGreatestCard

/-- THE TIED CARD OF 'chaperonlaw07.ConsistLooser'. -/
def consistLooserCard : Claim7 := { stood := { row := consistLooserRow, standIns := [], harness := (true, "4ca7941f33c3d2f93297472c495587d2aac2f16c99c9748c9e80191d3736b0f1"), looks := false }, kinds := [], alts := [], laidByText := true, laidKinds := [.data, .listed, .data, .data, .pinned], laidTests := true, laidLooks := .later }
def ConsistLooserCardSaid : Prop := Claim7.holds Tryz.pinned (.plain (OpenSpec.ofChange consistLooserSpec)) consistLooserCard

/-- THE TIED CARD OF 'chaperonlaw08.PreciseTells'. -/
def preciseTellsCard : Claim7 := { stood := { row := preciseTellsRow, standIns := [], harness := (true, "4ca7941f33c3d2f93297472c495587d2aac2f16c99c9748c9e80191d3736b0f1"), looks := false }, kinds := [], alts := [], laidByText := true, laidKinds := [.data, .listed, .data, .data, .pinned], laidTests := true, laidLooks := .later }
def PreciseTellsCardSaid : Prop := Claim7.holds Tryz.pinned (.plain (OpenSpec.ofChange preciseTellsSpec)) preciseTellsCard

/-- THE TIED CARD OF 'chaperonlaw08.PreciseGreatest'. -/
def preciseGreatestCard : Claim7 := { stood := { row := preciseGreatestRow, standIns := [], harness := (true, "4ca7941f33c3d2f93297472c495587d2aac2f16c99c9748c9e80191d3736b0f1"), looks := false }, kinds := [], alts := [], laidByText := true, laidKinds := [.data, .listed, .data, .data, .pinned], laidTests := true, laidLooks := .later }
def PreciseGreatestCardSaid : Prop := Claim7.holds Tryz.pinned (.plain (OpenSpec.ofChange preciseGreatestSpec)) preciseGreatestCard

/-- THE TIED CARD OF 'chaperonlaw09.SitesChecks'. -/
def sitesChecksCard : Claim7 := { stood := { row := sitesChecksRow, standIns := [], harness := (true, "4ca7941f33c3d2f93297472c495587d2aac2f16c99c9748c9e80191d3736b0f1"), looks := false }, kinds := [], alts := [], laidByText := true, laidKinds := [.data, .listed, .data, .data, .pinned], laidTests := true, laidLooks := .later }
def SitesChecksCardSaid : Prop := Claim7.holds Tryz.pinned (.plain (OpenSpec.ofChange sitesChecksSpec)) sitesChecksCard

/-- THE TIED CARD OF 'chaperonlaw09.SitesTells'. -/
def sitesTellsCard : Claim7 := { stood := { row := sitesTellsRow, standIns := [], harness := (true, "4ca7941f33c3d2f93297472c495587d2aac2f16c99c9748c9e80191d3736b0f1"), looks := false }, kinds := [], alts := [], laidByText := true, laidKinds := [.data, .data, .data, .data, .listed, .data, .data, .data, .pinned], laidTests := true, laidLooks := .later }
def SitesTellsCardSaid : Prop := Claim7.holds Tryz.pinned (.plain (OpenSpec.ofChange sitesTellsSpec)) sitesTellsCard

/-- THE TIED CARD OF 'chaperonlaw09.SitesKnown'. -/
def sitesKnownCard : Claim7 := { stood := { row := sitesKnownRow, standIns := [], harness := (true, "4ca7941f33c3d2f93297472c495587d2aac2f16c99c9748c9e80191d3736b0f1"), looks := false }, kinds := [], alts := [], laidByText := true, laidKinds := [.data, .data, .data, .data, .listed, .data, .data, .data, .pinned], laidTests := true, laidLooks := .later }
def SitesKnownCardSaid : Prop := Claim7.holds Tryz.pinned (.plain (OpenSpec.ofChange sitesKnownSpec)) sitesKnownCard

/-- THE TIED CARD OF 'chaperonlaw09.SitesMay'. -/
def sitesMayCard : Claim7 := { stood := { row := sitesMayRow, standIns := [], harness := (true, "4ca7941f33c3d2f93297472c495587d2aac2f16c99c9748c9e80191d3736b0f1"), looks := false }, kinds := [], alts := [], laidByText := true, laidKinds := [.data, .data, .data, .data, .listed, .data, .data, .data, .pinned], laidTests := true, laidLooks := .later }
def SitesMayCardSaid : Prop := Claim7.holds Tryz.pinned (.plain (OpenSpec.ofChange sitesMaySpec)) sitesMayCard

/-- THE TIED CARD OF 'chaperonlaw09.SitesCasts'. -/
def sitesCastsCard : Claim7 := { stood := { row := sitesCastsRow, standIns := [], harness := (true, "4ca7941f33c3d2f93297472c495587d2aac2f16c99c9748c9e80191d3736b0f1"), looks := false }, kinds := [], alts := [], laidByText := true, laidKinds := [.data, .listed, .data, .data, .pinned], laidTests := true, laidLooks := .later }
def SitesCastsCardSaid : Prop := Claim7.holds Tryz.pinned (.plain (OpenSpec.ofChange sitesCastsSpec)) sitesCastsCard

/-- THE TIED CARD OF 'chaperonlaw09.SitesMore'. -/
def sitesMoreCard : Claim7 := { stood := { row := sitesMoreRow, standIns := [], harness := (true, "4ca7941f33c3d2f93297472c495587d2aac2f16c99c9748c9e80191d3736b0f1"), looks := false }, kinds := [], alts := [], laidByText := true, laidKinds := [.data, .data, .data, .data, .listed, .data, .data, .data, .pinned], laidTests := true, laidLooks := .later }
def SitesMoreCardSaid : Prop := Claim7.holds Tryz.pinned (.plain (OpenSpec.ofChange sitesMoreSpec)) sitesMoreCard

/-- THE SECOND FORM's CARD OF 'chaperonlaw06.SubtypeTells'. -/
def subtypeTellsUptoCard : Claim7 := { stood := { row := subtypeTellsUptoRow, standIns := [], harness := (true, "4ca7941f33c3d2f93297472c495587d2aac2f16c99c9748c9e80191d3736b0f1"), looks := false }, kinds := [], alts := [], laidByText := true, laidKinds := [.data, .listed, .data, .data, .pinned], laidTests := true, laidLooks := .later }
def SubtypeTellsUptoCardSaid : Prop := Claim7.holds Tryz.pinned (.plain (OpenSpec.upto subtypeTellsSpec)) subtypeTellsUptoCard

/-- THE SECOND FORM's CARD OF 'chaperonlaw07.ConsistTells'. -/
def consistTellsUptoCard : Claim7 := { stood := { row := consistTellsUptoRow, standIns := [], harness := (true, "4ca7941f33c3d2f93297472c495587d2aac2f16c99c9748c9e80191d3736b0f1"), looks := false }, kinds := [], alts := [], laidByText := true, laidKinds := [.data, .listed, .data, .data, .pinned], laidTests := true, laidLooks := .later }
def ConsistTellsUptoCardSaid : Prop := Claim7.holds Tryz.pinned (.plain (OpenSpec.upto consistTellsSpec)) consistTellsUptoCard

/-- THE SECOND FORM's CARD OF 'chaperonlaw07.ConsistGreatest'. -/
def consistGreatestUptoCard : Claim7 := { stood := { row := consistGreatestUptoRow, standIns := [], harness := (true, "4ca7941f33c3d2f93297472c495587d2aac2f16c99c9748c9e80191d3736b0f1"), looks := false }, kinds := [], alts := [], laidByText := true, laidKinds := [.data, .listed, .data, .data, .pinned], laidTests := true, laidLooks := .later }
def ConsistGreatestUptoCardSaid : Prop := Claim7.holds Tryz.pinned (.plain (OpenSpec.upto consistGreatestSpec)) consistGreatestUptoCard

/-- THE SECOND FORM's CARD OF 'chaperonlaw07.ConsistLooser'. -/
def consistLooserUptoCard : Claim7 := { stood := { row := consistLooserUptoRow, standIns := [], harness := (true, "4ca7941f33c3d2f93297472c495587d2aac2f16c99c9748c9e80191d3736b0f1"), looks := false }, kinds := [], alts := [], laidByText := true, laidKinds := [.data, .listed, .data, .data, .pinned], laidTests := true, laidLooks := .later }
def ConsistLooserUptoCardSaid : Prop := Claim7.holds Tryz.pinned (.plain (OpenSpec.upto consistLooserSpec)) consistLooserUptoCard

/-- THE SECOND FORM's CARD OF 'chaperonlaw08.PreciseTells'. -/
def preciseTellsUptoCard : Claim7 := { stood := { row := preciseTellsUptoRow, standIns := [], harness := (true, "4ca7941f33c3d2f93297472c495587d2aac2f16c99c9748c9e80191d3736b0f1"), looks := false }, kinds := [], alts := [], laidByText := true, laidKinds := [.data, .listed, .data, .data, .pinned], laidTests := true, laidLooks := .later }
def PreciseTellsUptoCardSaid : Prop := Claim7.holds Tryz.pinned (.plain (OpenSpec.upto preciseTellsSpec)) preciseTellsUptoCard

/-- THE SECOND FORM's CARD OF 'chaperonlaw08.PreciseGreatest'. -/
def preciseGreatestUptoCard : Claim7 := { stood := { row := preciseGreatestUptoRow, standIns := [], harness := (true, "4ca7941f33c3d2f93297472c495587d2aac2f16c99c9748c9e80191d3736b0f1"), looks := false }, kinds := [], alts := [], laidByText := true, laidKinds := [.data, .listed, .data, .data, .pinned], laidTests := true, laidLooks := .later }
def PreciseGreatestUptoCardSaid : Prop := Claim7.holds Tryz.pinned (.plain (OpenSpec.upto preciseGreatestSpec)) preciseGreatestUptoCard

/-- THE SECOND FORM's CARD OF 'chaperonlaw09.SitesChecks'. -/
def sitesChecksUptoCard : Claim7 := { stood := { row := sitesChecksUptoRow, standIns := [], harness := (true, "4ca7941f33c3d2f93297472c495587d2aac2f16c99c9748c9e80191d3736b0f1"), looks := false }, kinds := [], alts := [], laidByText := true, laidKinds := [.data, .listed, .data, .data, .pinned], laidTests := true, laidLooks := .later }
def SitesChecksUptoCardSaid : Prop := Claim7.holds Tryz.pinned (.plain (OpenSpec.upto sitesChecksSpec)) sitesChecksUptoCard

/-- THE SECOND FORM's CARD OF 'chaperonlaw09.SitesTells'. -/
def sitesTellsUptoCard : Claim7 := { stood := { row := sitesTellsUptoRow, standIns := [], harness := (true, "4ca7941f33c3d2f93297472c495587d2aac2f16c99c9748c9e80191d3736b0f1"), looks := false }, kinds := [], alts := [], laidByText := true, laidKinds := [.data, .data, .data, .data, .listed, .data, .data, .data, .pinned], laidTests := true, laidLooks := .later }
def SitesTellsUptoCardSaid : Prop := Claim7.holds Tryz.pinned (.plain (OpenSpec.upto sitesTellsSpec)) sitesTellsUptoCard

/-- THE SECOND FORM's CARD OF 'chaperonlaw09.SitesKnown'. -/
def sitesKnownUptoCard : Claim7 := { stood := { row := sitesKnownUptoRow, standIns := [], harness := (true, "4ca7941f33c3d2f93297472c495587d2aac2f16c99c9748c9e80191d3736b0f1"), looks := false }, kinds := [], alts := [], laidByText := true, laidKinds := [.data, .data, .data, .data, .listed, .data, .data, .data, .pinned], laidTests := true, laidLooks := .later }
def SitesKnownUptoCardSaid : Prop := Claim7.holds Tryz.pinned (.plain (OpenSpec.upto sitesKnownSpec)) sitesKnownUptoCard

/-- THE SECOND FORM's CARD OF 'chaperonlaw09.SitesMay'. -/
def sitesMayUptoCard : Claim7 := { stood := { row := sitesMayUptoRow, standIns := [], harness := (true, "4ca7941f33c3d2f93297472c495587d2aac2f16c99c9748c9e80191d3736b0f1"), looks := false }, kinds := [], alts := [], laidByText := true, laidKinds := [.data, .data, .data, .data, .listed, .data, .data, .data, .pinned], laidTests := true, laidLooks := .later }
def SitesMayUptoCardSaid : Prop := Claim7.holds Tryz.pinned (.plain (OpenSpec.upto sitesMaySpec)) sitesMayUptoCard

/-- THE SECOND FORM's CARD OF 'chaperonlaw09.SitesCasts'. -/
def sitesCastsUptoCard : Claim7 := { stood := { row := sitesCastsUptoRow, standIns := [], harness := (true, "4ca7941f33c3d2f93297472c495587d2aac2f16c99c9748c9e80191d3736b0f1"), looks := false }, kinds := [], alts := [], laidByText := true, laidKinds := [.data, .listed, .data, .data, .pinned], laidTests := true, laidLooks := .later }
def SitesCastsUptoCardSaid : Prop := Claim7.holds Tryz.pinned (.plain (OpenSpec.upto sitesCastsSpec)) sitesCastsUptoCard

/-- THE SECOND FORM's CARD OF 'chaperonlaw09.SitesMore'. -/
def sitesMoreUptoCard : Claim7 := { stood := { row := sitesMoreUptoRow, standIns := [], harness := (true, "4ca7941f33c3d2f93297472c495587d2aac2f16c99c9748c9e80191d3736b0f1"), looks := false }, kinds := [], alts := [], laidByText := true, laidKinds := [.data, .data, .data, .data, .listed, .data, .data, .data, .pinned], laidTests := true, laidLooks := .later }
def SitesMoreUptoCardSaid : Prop := Claim7.holds Tryz.pinned (.plain (OpenSpec.upto sitesMoreSpec)) sitesMoreUptoCard
end Rows
end Go.Proofs.YthooiofaicdhgaaGreatDoor
