/-
  DERIVED. GIVEN WITH THE SEED: THE CARDS: each row of YtbjomddjbfgclaaDoorRows.lean that lists a variable, with what it lists TIED to the program's text (the seventh form; the later family's looks); each row that meets fmt, with fmt's text TOLD by the authors' own Lean function (tested against real Go, not proved from fmt's source: count such statements apart). THE CARD IS WHAT COUNTS. Prove the row's statement (the work); the ties are given (YtbjomddjbfgclaaDoorTie.lean); close each card by the builder's one call (the guide's Derived/Test/ToyasCard.lean, 'card_holds'). Laid BY PROGRAM, IN A SANDBOX (cutbox-door.mjs). By AI agents, Wed Nov 11 2026. No macro, syntax, notation, axiom, sorry.
-/
import Derived.Test.YtbjomddjbfgclaaDoorRows
import GoSem.ClaimSeven
namespace Go.Proofs.YtbjomddjbfgclaaDoor
namespace Rows

/-- THE TIED CARD OF 'chaperonlaw05.TableKnown'. -/
def tableKnownCard : Claim7 := { stood := { row := tableKnownRow, standIns := [], harness := (true, "bd51b5d3243d66a7e0dfd0f8d3871ff90f2e47d45377989f3db887149104c515"), looks := false }, kinds := [], alts := [], laidByText := true, laidKinds := [.data, .listed, .data, .data, .pinned], laidTests := true, laidLooks := .later }
def TableKnownCardSaid : Prop := Claim7.holds Tryd.pinned (.plain (OpenSpec.ofChange tableKnownSpec)) tableKnownCard

/-- THE TIED CARD OF 'chaperonlaw05.TableOnce'. -/
def tableOnceCard : Claim7 := { stood := { row := tableOnceRow, standIns := [], harness := (true, "bd51b5d3243d66a7e0dfd0f8d3871ff90f2e47d45377989f3db887149104c515"), looks := false }, kinds := [], alts := [], laidByText := true, laidKinds := [.data, .listed, .data, .data, .pinned], laidTests := true, laidLooks := .later }
def TableOnceCardSaid : Prop := Claim7.holds Tryd.pinned (.plain (OpenSpec.ofChange tableOnceSpec)) tableOnceCard

/-- THE TIED CARD OF 'chaperonlaw05.TableAbove'. -/
def tableAboveCard : Claim7 := { stood := { row := tableAboveRow, standIns := [], harness := (true, "bd51b5d3243d66a7e0dfd0f8d3871ff90f2e47d45377989f3db887149104c515"), looks := false }, kinds := [], alts := [], laidByText := true, laidKinds := [.data, .listed, .data, .data, .pinned], laidTests := true, laidLooks := .later }
def TableAboveCardSaid : Prop := Claim7.holds Tryd.pinned (.plain (OpenSpec.ofChange tableAboveSpec)) tableAboveCard

/-- THE TIED CARD OF 'chaperonlaw06.SubtypeKnown'. -/
def subtypeKnownCard : Claim7 := { stood := { row := subtypeKnownRow, standIns := [], harness := (true, "bd51b5d3243d66a7e0dfd0f8d3871ff90f2e47d45377989f3db887149104c515"), looks := false }, kinds := [], alts := [], laidByText := true, laidKinds := [.data, .listed, .data, .data, .pinned], laidTests := true, laidLooks := .later }
def SubtypeKnownCardSaid : Prop := Claim7.holds Tryd.pinned (.plain (OpenSpec.ofChange subtypeKnownSpec)) subtypeKnownCard

/-- THE TIED CARD OF 'chaperonlaw06.SubtypeOrder'. -/
def subtypeOrderCard : Claim7 := { stood := { row := subtypeOrderRow, standIns := [], harness := (true, "bd51b5d3243d66a7e0dfd0f8d3871ff90f2e47d45377989f3db887149104c515"), looks := false }, kinds := [], alts := [], laidByText := true, laidKinds := [.data, .listed, .data, .data, .pinned], laidTests := true, laidLooks := .later }
def SubtypeOrderCardSaid : Prop := Claim7.holds Tryd.pinned (.plain (OpenSpec.ofChange subtypeOrderSpec)) subtypeOrderCard

/-- THE TIED CARD OF 'chaperonlaw06.SubtypeJoin'. -/
def subtypeJoinCard : Claim7 := { stood := { row := subtypeJoinRow, standIns := [], harness := (true, "bd51b5d3243d66a7e0dfd0f8d3871ff90f2e47d45377989f3db887149104c515"), looks := false }, kinds := [], alts := [], laidByText := true, laidKinds := [.data, .listed, .data, .data, .pinned], laidTests := true, laidLooks := .later }
def SubtypeJoinCardSaid : Prop := Claim7.holds Tryd.pinned (.plain (OpenSpec.ofChange subtypeJoinSpec)) subtypeJoinCard

/-- THE TIED CARD OF 'chaperonlaw06.SubtypeHas'. -/
def subtypeHasCard : Claim7 := { stood := { row := subtypeHasRow, standIns := [], harness := (true, "bd51b5d3243d66a7e0dfd0f8d3871ff90f2e47d45377989f3db887149104c515"), looks := false }, kinds := [], alts := [], laidByText := true, laidKinds := [.data, .listed, .data, .data, .pinned], laidTests := true, laidLooks := .later }
def SubtypeHasCardSaid : Prop := Claim7.holds Tryd.pinned (.plain (OpenSpec.ofChange subtypeHasSpec)) subtypeHasCard

/-- THE TIED CARD OF 'chaperonlaw07.ConsistKnown'. -/
def consistKnownCard : Claim7 := { stood := { row := consistKnownRow, standIns := [], harness := (true, "bd51b5d3243d66a7e0dfd0f8d3871ff90f2e47d45377989f3db887149104c515"), looks := false }, kinds := [], alts := [], laidByText := true, laidKinds := [.data, .listed, .data, .data, .pinned], laidTests := true, laidLooks := .later }
def ConsistKnownCardSaid : Prop := Claim7.holds Tryd.pinned (.plain (OpenSpec.ofChange consistKnownSpec)) consistKnownCard

/-- THE SECOND FORM's CARD OF 'chaperonlaw05.TableKnown'. -/
def tableKnownUptoCard : Claim7 := { stood := { row := tableKnownUptoRow, standIns := [], harness := (true, "bd51b5d3243d66a7e0dfd0f8d3871ff90f2e47d45377989f3db887149104c515"), looks := false }, kinds := [], alts := [], laidByText := true, laidKinds := [.data, .listed, .data, .data, .pinned], laidTests := true, laidLooks := .later }
def TableKnownUptoCardSaid : Prop := Claim7.holds Tryd.pinned (.plain (OpenSpec.upto tableKnownSpec)) tableKnownUptoCard

/-- THE SECOND FORM's CARD OF 'chaperonlaw05.TableOnce'. -/
def tableOnceUptoCard : Claim7 := { stood := { row := tableOnceUptoRow, standIns := [], harness := (true, "bd51b5d3243d66a7e0dfd0f8d3871ff90f2e47d45377989f3db887149104c515"), looks := false }, kinds := [], alts := [], laidByText := true, laidKinds := [.data, .listed, .data, .data, .pinned], laidTests := true, laidLooks := .later }
def TableOnceUptoCardSaid : Prop := Claim7.holds Tryd.pinned (.plain (OpenSpec.upto tableOnceSpec)) tableOnceUptoCard

/-- THE SECOND FORM's CARD OF 'chaperonlaw05.TableAbove'. -/
def tableAboveUptoCard : Claim7 := { stood := { row := tableAboveUptoRow, standIns := [], harness := (true, "bd51b5d3243d66a7e0dfd0f8d3871ff90f2e47d45377989f3db887149104c515"), looks := false }, kinds := [], alts := [], laidByText := true, laidKinds := [.data, .listed, .data, .data, .pinned], laidTests := true, laidLooks := .later }
def TableAboveUptoCardSaid : Prop := Claim7.holds Tryd.pinned (.plain (OpenSpec.upto tableAboveSpec)) tableAboveUptoCard

/-- THE SECOND FORM's CARD OF 'chaperonlaw06.SubtypeKnown'. -/
def subtypeKnownUptoCard : Claim7 := { stood := { row := subtypeKnownUptoRow, standIns := [], harness := (true, "bd51b5d3243d66a7e0dfd0f8d3871ff90f2e47d45377989f3db887149104c515"), looks := false }, kinds := [], alts := [], laidByText := true, laidKinds := [.data, .listed, .data, .data, .pinned], laidTests := true, laidLooks := .later }
def SubtypeKnownUptoCardSaid : Prop := Claim7.holds Tryd.pinned (.plain (OpenSpec.upto subtypeKnownSpec)) subtypeKnownUptoCard

/-- THE SECOND FORM's CARD OF 'chaperonlaw06.SubtypeOrder'. -/
def subtypeOrderUptoCard : Claim7 := { stood := { row := subtypeOrderUptoRow, standIns := [], harness := (true, "bd51b5d3243d66a7e0dfd0f8d3871ff90f2e47d45377989f3db887149104c515"), looks := false }, kinds := [], alts := [], laidByText := true, laidKinds := [.data, .listed, .data, .data, .pinned], laidTests := true, laidLooks := .later }
def SubtypeOrderUptoCardSaid : Prop := Claim7.holds Tryd.pinned (.plain (OpenSpec.upto subtypeOrderSpec)) subtypeOrderUptoCard

/-- THE SECOND FORM's CARD OF 'chaperonlaw06.SubtypeJoin'. -/
def subtypeJoinUptoCard : Claim7 := { stood := { row := subtypeJoinUptoRow, standIns := [], harness := (true, "bd51b5d3243d66a7e0dfd0f8d3871ff90f2e47d45377989f3db887149104c515"), looks := false }, kinds := [], alts := [], laidByText := true, laidKinds := [.data, .listed, .data, .data, .pinned], laidTests := true, laidLooks := .later }
def SubtypeJoinUptoCardSaid : Prop := Claim7.holds Tryd.pinned (.plain (OpenSpec.upto subtypeJoinSpec)) subtypeJoinUptoCard

/-- THE SECOND FORM's CARD OF 'chaperonlaw06.SubtypeHas'. -/
def subtypeHasUptoCard : Claim7 := { stood := { row := subtypeHasUptoRow, standIns := [], harness := (true, "bd51b5d3243d66a7e0dfd0f8d3871ff90f2e47d45377989f3db887149104c515"), looks := false }, kinds := [], alts := [], laidByText := true, laidKinds := [.data, .listed, .data, .data, .pinned], laidTests := true, laidLooks := .later }
def SubtypeHasUptoCardSaid : Prop := Claim7.holds Tryd.pinned (.plain (OpenSpec.upto subtypeHasSpec)) subtypeHasUptoCard

/-- THE SECOND FORM's CARD OF 'chaperonlaw07.ConsistKnown'. -/
def consistKnownUptoCard : Claim7 := { stood := { row := consistKnownUptoRow, standIns := [], harness := (true, "bd51b5d3243d66a7e0dfd0f8d3871ff90f2e47d45377989f3db887149104c515"), looks := false }, kinds := [], alts := [], laidByText := true, laidKinds := [.data, .listed, .data, .data, .pinned], laidTests := true, laidLooks := .later }
def ConsistKnownUptoCardSaid : Prop := Claim7.holds Tryd.pinned (.plain (OpenSpec.upto consistKnownSpec)) consistKnownUptoCard
end Rows
end Go.Proofs.YtbjomddjbfgclaaDoor
