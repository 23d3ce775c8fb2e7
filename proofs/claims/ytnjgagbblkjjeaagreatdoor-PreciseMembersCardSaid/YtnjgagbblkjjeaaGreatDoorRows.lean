/-
  NARROWER THAN 'FOR EVERY INPUT', by the rows' own cells (each row's printed sentence says how): SubtypeTells: laid · ConsistTells: laid · ConsistGreatest: laid · ConsistLooser: laid · PreciseTells: laid · PreciseKnown: laid · PreciseGoes: laid · PreciseMembers: laid · PreciseGreatest: laid.
  DERIVED. THE GIVEN ROWS OF THIS SEAT. 9 by the template 'for every input the law returns true; each argument reads behind the call as it read before'; 0 by the template 'total and deterministic' (their statements: YtnjgagbblkjjeaaGreatDoorTotals.lean).
  GIVEN WITH THE SEED: the statements are not yours to turn. If you find one false, say at which input.
  Laid BY PROGRAM, IN A SANDBOX (cutbox-rows.mjs): the forced cells as the released guide's own fill.sh prints them over the translation 9c1a3ece8cf8145a… (all of the seat's roots in one cut). By AI agents, Wed Nov 11 2026. No macro, syntax, notation, axiom, sorry.
-/
import Derived.Test.YtnjgagbblkjjeaaGreatDoorChecked
import GoSem.PinnedTables
import GoSem.Claim
import GoSem.ClaimJoined
import GoSem.ClaimMapViews
import Derived.JoinedTies
import Derived.KernelRfl
namespace Go.Proofs.YtnjgagbblkjjeaaGreatDoor
/- THE CELL 'sum', in the pinned program and in every row, IS THE sha256 OF THE DUMP (.gsa) THAT YtnjgagbblkjjeaaGreatDoorProg.lean LOADS. Nothing in Lean hashes anything: it is a label: what it is worth is what the hold of that sum in a sandbox is worth. -/
noncomputable def Tryz.pinned : Pinned := { name := "ytnjgagbblkjjeaagreatdoor", sum := "9c1a3ece8cf8145a377c67ce7ba8e2edc810ce5c30b4c5bf95661f58245d2d00", checked := Tryz.checked }
namespace Rows
def none {H : Type} : Left H := { results := [], args := [] }

/- WHAT THE LISTED PACKAGE-LEVEL VARIABLES READ AS WHEN THE CALL BEGINS. Each datum BY PROGRAM (the guide's laid-datum.mjs) off the statement by which the dump's own 'gosem.cut.vars' lays the variable. In a bare row this is a premise. The card (YtnjgagbblkjjeaaGreatDoorCards.lean) ties it to the program's text. -/
def laid_unicode_utf8_acceptRanges {H : Type} : DataW H := .agg [.agg [.lit (.int .u8 128), .lit (.int .u8 191)], .agg [.lit (.int .u8 160), .lit (.int .u8 191)], .agg [.lit (.int .u8 128), .lit (.int .u8 159)], .agg [.lit (.int .u8 144), .lit (.int .u8 191)], .agg [.lit (.int .u8 128), .lit (.int .u8 143)], .agg [.lit (.int .u8 0), .lit (.int .u8 0)], .agg [.lit (.int .u8 0), .lit (.int .u8 0)], .agg [.lit (.int .u8 0), .lit (.int .u8 0)], .agg [.lit (.int .u8 0), .lit (.int .u8 0)], .agg [.lit (.int .u8 0), .lit (.int .u8 0)], .agg [.lit (.int .u8 0), .lit (.int .u8 0)], .agg [.lit (.int .u8 0), .lit (.int .u8 0)], .agg [.lit (.int .u8 0), .lit (.int .u8 0)], .agg [.lit (.int .u8 0), .lit (.int .u8 0)], .agg [.lit (.int .u8 0), .lit (.int .u8 0)], .agg [.lit (.int .u8 0), .lit (.int .u8 0)]]
def laid_unicode_White_Space {H : Type} : DataW H := .ptr (.agg [.slice [.agg [.lit (.int .u16 9), .lit (.int .u16 13), .lit (.int .u16 1)], .agg [.lit (.int .u16 32), .lit (.int .u16 133), .lit (.int .u16 101)], .agg [.lit (.int .u16 160), .lit (.int .u16 5760), .lit (.int .u16 5600)], .agg [.lit (.int .u16 8192), .lit (.int .u16 8202), .lit (.int .u16 1)], .agg [.lit (.int .u16 8232), .lit (.int .u16 8233), .lit (.int .u16 1)], .agg [.lit (.int .u16 8239), .lit (.int .u16 8287), .lit (.int .u16 48)], .agg [.lit (.int .u16 12288), .lit (.int .u16 12288), .lit (.int .u16 1)]] [], .nil, .lit (.int .i64 2)])
def laid_strings_asciiSpace {H : Type} : DataW H := .agg [.lit (.int .u8 0), .lit (.int .u8 0), .lit (.int .u8 0), .lit (.int .u8 0), .lit (.int .u8 0), .lit (.int .u8 0), .lit (.int .u8 0), .lit (.int .u8 0), .lit (.int .u8 0), .lit (.int .u8 1), .lit (.int .u8 1), .lit (.int .u8 1), .lit (.int .u8 1), .lit (.int .u8 1), .lit (.int .u8 0), .lit (.int .u8 0), .lit (.int .u8 0), .lit (.int .u8 0), .lit (.int .u8 0), .lit (.int .u8 0), .lit (.int .u8 0), .lit (.int .u8 0), .lit (.int .u8 0), .lit (.int .u8 0), .lit (.int .u8 0), .lit (.int .u8 0), .lit (.int .u8 0), .lit (.int .u8 0), .lit (.int .u8 0), .lit (.int .u8 0), .lit (.int .u8 0), .lit (.int .u8 0), .lit (.int .u8 1), .lit (.int .u8 0), .lit (.int .u8 0), .lit (.int .u8 0), .lit (.int .u8 0), .lit (.int .u8 0), .lit (.int .u8 0), .lit (.int .u8 0), .lit (.int .u8 0), .lit (.int .u8 0), .lit (.int .u8 0), .lit (.int .u8 0), .lit (.int .u8 0), .lit (.int .u8 0), .lit (.int .u8 0), .lit (.int .u8 0), .lit (.int .u8 0), .lit (.int .u8 0), .lit (.int .u8 0), .lit (.int .u8 0), .lit (.int .u8 0), .lit (.int .u8 0), .lit (.int .u8 0), .lit (.int .u8 0), .lit (.int .u8 0), .lit (.int .u8 0), .lit (.int .u8 0), .lit (.int .u8 0), .lit (.int .u8 0), .lit (.int .u8 0), .lit (.int .u8 0), .lit (.int .u8 0), .lit (.int .u8 0), .lit (.int .u8 0), .lit (.int .u8 0), .lit (.int .u8 0), .lit (.int .u8 0), .lit (.int .u8 0), .lit (.int .u8 0), .lit (.int .u8 0), .lit (.int .u8 0), .lit (.int .u8 0), .lit (.int .u8 0), .lit (.int .u8 0), .lit (.int .u8 0), .lit (.int .u8 0), .lit (.int .u8 0), .lit (.int .u8 0), .lit (.int .u8 0), .lit (.int .u8 0), .lit (.int .u8 0), .lit (.int .u8 0), .lit (.int .u8 0), .lit (.int .u8 0), .lit (.int .u8 0), .lit (.int .u8 0), .lit (.int .u8 0), .lit (.int .u8 0), .lit (.int .u8 0), .lit (.int .u8 0), .lit (.int .u8 0), .lit (.int .u8 0), .lit (.int .u8 0), .lit (.int .u8 0), .lit (.int .u8 0), .lit (.int .u8 0), .lit (.int .u8 0), .lit (.int .u8 0), .lit (.int .u8 0), .lit (.int .u8 0), .lit (.int .u8 0), .lit (.int .u8 0), .lit (.int .u8 0), .lit (.int .u8 0), .lit (.int .u8 0), .lit (.int .u8 0), .lit (.int .u8 0), .lit (.int .u8 0), .lit (.int .u8 0), .lit (.int .u8 0), .lit (.int .u8 0), .lit (.int .u8 0), .lit (.int .u8 0), .lit (.int .u8 0), .lit (.int .u8 0), .lit (.int .u8 0), .lit (.int .u8 0), .lit (.int .u8 0), .lit (.int .u8 0), .lit (.int .u8 0), .lit (.int .u8 0), .lit (.int .u8 0), .lit (.int .u8 0), .lit (.int .u8 0), .lit (.int .u8 0), .lit (.int .u8 0), .lit (.int .u8 0), .lit (.int .u8 0), .lit (.int .u8 0), .lit (.int .u8 0), .lit (.int .u8 0), .lit (.int .u8 0), .lit (.int .u8 0), .lit (.int .u8 0), .lit (.int .u8 0), .lit (.int .u8 0), .lit (.int .u8 0), .lit (.int .u8 0), .lit (.int .u8 0), .lit (.int .u8 0), .lit (.int .u8 0), .lit (.int .u8 0), .lit (.int .u8 0), .lit (.int .u8 0), .lit (.int .u8 0), .lit (.int .u8 0), .lit (.int .u8 0), .lit (.int .u8 0), .lit (.int .u8 0), .lit (.int .u8 0), .lit (.int .u8 0), .lit (.int .u8 0), .lit (.int .u8 0), .lit (.int .u8 0), .lit (.int .u8 0), .lit (.int .u8 0), .lit (.int .u8 0), .lit (.int .u8 0), .lit (.int .u8 0), .lit (.int .u8 0), .lit (.int .u8 0), .lit (.int .u8 0), .lit (.int .u8 0), .lit (.int .u8 0), .lit (.int .u8 0), .lit (.int .u8 0), .lit (.int .u8 0), .lit (.int .u8 0), .lit (.int .u8 0), .lit (.int .u8 0), .lit (.int .u8 0), .lit (.int .u8 0), .lit (.int .u8 0), .lit (.int .u8 0), .lit (.int .u8 0), .lit (.int .u8 0), .lit (.int .u8 0), .lit (.int .u8 0), .lit (.int .u8 0), .lit (.int .u8 0), .lit (.int .u8 0), .lit (.int .u8 0), .lit (.int .u8 0), .lit (.int .u8 0), .lit (.int .u8 0), .lit (.int .u8 0), .lit (.int .u8 0), .lit (.int .u8 0), .lit (.int .u8 0), .lit (.int .u8 0), .lit (.int .u8 0), .lit (.int .u8 0), .lit (.int .u8 0), .lit (.int .u8 0), .lit (.int .u8 0), .lit (.int .u8 0), .lit (.int .u8 0), .lit (.int .u8 0), .lit (.int .u8 0), .lit (.int .u8 0), .lit (.int .u8 0), .lit (.int .u8 0), .lit (.int .u8 0), .lit (.int .u8 0), .lit (.int .u8 0), .lit (.int .u8 0), .lit (.int .u8 0), .lit (.int .u8 0), .lit (.int .u8 0), .lit (.int .u8 0), .lit (.int .u8 0), .lit (.int .u8 0), .lit (.int .u8 0), .lit (.int .u8 0), .lit (.int .u8 0), .lit (.int .u8 0), .lit (.int .u8 0), .lit (.int .u8 0), .lit (.int .u8 0), .lit (.int .u8 0), .lit (.int .u8 0), .lit (.int .u8 0), .lit (.int .u8 0), .lit (.int .u8 0), .lit (.int .u8 0), .lit (.int .u8 0), .lit (.int .u8 0), .lit (.int .u8 0), .lit (.int .u8 0), .lit (.int .u8 0), .lit (.int .u8 0), .lit (.int .u8 0), .lit (.int .u8 0), .lit (.int .u8 0), .lit (.int .u8 0), .lit (.int .u8 0), .lit (.int .u8 0), .lit (.int .u8 0), .lit (.int .u8 0), .lit (.int .u8 0), .lit (.int .u8 0), .lit (.int .u8 0), .lit (.int .u8 0), .lit (.int .u8 0), .lit (.int .u8 0), .lit (.int .u8 0), .lit (.int .u8 0), .lit (.int .u8 0), .lit (.int .u8 0), .lit (.int .u8 0), .lit (.int .u8 0), .lit (.int .u8 0), .lit (.int .u8 0), .lit (.int .u8 0)]
def laid_chaperon_words_bases {H : Type} : DataW H := .agg [.agg [.lit (.string [105, 110, 116]), .lit (.int .i64 1)], .agg [.lit (.string [114, 101, 97, 108]), .lit (.int .i64 2)], .agg [.lit (.string [98, 111, 111, 108]), .lit (.int .i64 3)], .agg [.lit (.string [115, 116, 114]), .lit (.int .i64 4)], .agg [.lit (.string [117, 110, 105, 116]), .lit (.int .i64 5)]]
/-- One of Go's own tables, pinned by name: the form's constant. -/
def laid_unicode_utf8_first : DataW Unit := Go.Pinned.utf8First

/-- 'chaperonlaw06.SubtypeTells': WHATEVER THE INPUT: true; the input reads as it did. -/
def subtypeTellsSpec : ChangeSpec := { name := "subtypeTells", fn := fun _ => fun
  | [d1, d2, d3] => { results := [.lit (.bool true)], args := [d1, d2, d3] }
  | _ => none }
def subtypeTellsRow : OpenClaim := { program := "ytnjgagbblkjjeaagreatdoor", sum := "9c1a3ece8cf8145a377c67ce7ba8e2edc810ce5c30b4c5bf95661f58245d2d00", func := "chaperon/chaperonlaw06.SubtypeTells", spec := "subtypeTells", unfollowed := true, recurses := true, named := ["strings.asciiSpace", "unicode/utf8.first", "unicode/utf8.acceptRanges", "unicode.White_Space", "chaperon/words.bases"], plainKeys := false, apart := false, laid := [("unicode/utf8.acceptRanges", laid_unicode_utf8_acceptRanges), ("unicode.White_Space", laid_unicode_White_Space), ("strings.asciiSpace", laid_strings_asciiSpace), ("chaperon/words.bases", laid_chaperon_words_bases), ("unicode/utf8.first", laid_unicode_utf8_first)] }
def SubtypeTellsSaid : Prop := subtypeTellsRow.holds Tryz.pinned (OpenSpec.ofChange subtypeTellsSpec)

/-- ITS FALSE NEIGHBOUR: 'it returns false'. Refute it at one input. -/
def subtypeTellsWrong : ChangeSpec := { name := "subtypeTells", fn := fun _ => fun
  | [d1, d2, d3] => { results := [.lit (.bool false)], args := [d1, d2, d3] }
  | _ => none }
def SubtypeTellsWrongFalsely : Prop := subtypeTellsRow.holds Tryz.pinned (OpenSpec.ofChange subtypeTellsWrong)

/-- 'chaperonlaw07.ConsistTells': WHATEVER THE INPUT: true; the input reads as it did. -/
def consistTellsSpec : ChangeSpec := { name := "consistTells", fn := fun _ => fun
  | [d1, d2, d3] => { results := [.lit (.bool true)], args := [d1, d2, d3] }
  | _ => none }
def consistTellsRow : OpenClaim := { program := "ytnjgagbblkjjeaagreatdoor", sum := "9c1a3ece8cf8145a377c67ce7ba8e2edc810ce5c30b4c5bf95661f58245d2d00", func := "chaperon/chaperonlaw07.ConsistTells", spec := "consistTells", unfollowed := true, recurses := true, named := ["strings.asciiSpace", "unicode/utf8.first", "unicode/utf8.acceptRanges", "unicode.White_Space", "chaperon/words.bases"], plainKeys := false, apart := false, laid := [("unicode/utf8.acceptRanges", laid_unicode_utf8_acceptRanges), ("unicode.White_Space", laid_unicode_White_Space), ("strings.asciiSpace", laid_strings_asciiSpace), ("chaperon/words.bases", laid_chaperon_words_bases), ("unicode/utf8.first", laid_unicode_utf8_first)] }
def ConsistTellsSaid : Prop := consistTellsRow.holds Tryz.pinned (OpenSpec.ofChange consistTellsSpec)

/-- ITS FALSE NEIGHBOUR: 'it returns false'. Refute it at one input. -/
def consistTellsWrong : ChangeSpec := { name := "consistTells", fn := fun _ => fun
  | [d1, d2, d3] => { results := [.lit (.bool false)], args := [d1, d2, d3] }
  | _ => none }
def ConsistTellsWrongFalsely : Prop := consistTellsRow.holds Tryz.pinned (OpenSpec.ofChange consistTellsWrong)

/-- 'chaperonlaw07.ConsistGreatest': WHATEVER THE INPUT: true; the input reads as it did. -/
def consistGreatestSpec : ChangeSpec := { name := "consistGreatest", fn := fun _ => fun
  | [d1, d2] => { results := [.lit (.bool true)], args := [d1, d2] }
  | _ => none }
def consistGreatestRow : OpenClaim := { program := "ytnjgagbblkjjeaagreatdoor", sum := "9c1a3ece8cf8145a377c67ce7ba8e2edc810ce5c30b4c5bf95661f58245d2d00", func := "chaperon/chaperonlaw07.ConsistGreatest", spec := "consistGreatest", unfollowed := true, recurses := true, named := ["strings.asciiSpace", "unicode/utf8.first", "unicode/utf8.acceptRanges", "unicode.White_Space", "chaperon/words.bases"], plainKeys := false, apart := false, laid := [("unicode/utf8.acceptRanges", laid_unicode_utf8_acceptRanges), ("unicode.White_Space", laid_unicode_White_Space), ("strings.asciiSpace", laid_strings_asciiSpace), ("chaperon/words.bases", laid_chaperon_words_bases), ("unicode/utf8.first", laid_unicode_utf8_first)] }
def ConsistGreatestSaid : Prop := consistGreatestRow.holds Tryz.pinned (OpenSpec.ofChange consistGreatestSpec)

/-- ITS FALSE NEIGHBOUR: 'it returns false'. Refute it at one input. -/
def consistGreatestWrong : ChangeSpec := { name := "consistGreatest", fn := fun _ => fun
  | [d1, d2] => { results := [.lit (.bool false)], args := [d1, d2] }
  | _ => none }
def ConsistGreatestWrongFalsely : Prop := consistGreatestRow.holds Tryz.pinned (OpenSpec.ofChange consistGreatestWrong)

/-- 'chaperonlaw07.ConsistLooser': WHATEVER THE INPUT: true; the input reads as it did. -/
def consistLooserSpec : ChangeSpec := { name := "consistLooser", fn := fun _ => fun
  | [d1, d2, d3, d4] => { results := [.lit (.bool true)], args := [d1, d2, d3, d4] }
  | _ => none }
def consistLooserRow : OpenClaim := { program := "ytnjgagbblkjjeaagreatdoor", sum := "9c1a3ece8cf8145a377c67ce7ba8e2edc810ce5c30b4c5bf95661f58245d2d00", func := "chaperon/chaperonlaw07.ConsistLooser", spec := "consistLooser", unfollowed := true, recurses := true, named := ["strings.asciiSpace", "unicode/utf8.first", "unicode/utf8.acceptRanges", "unicode.White_Space", "chaperon/words.bases"], plainKeys := false, apart := false, laid := [("unicode/utf8.acceptRanges", laid_unicode_utf8_acceptRanges), ("unicode.White_Space", laid_unicode_White_Space), ("strings.asciiSpace", laid_strings_asciiSpace), ("chaperon/words.bases", laid_chaperon_words_bases), ("unicode/utf8.first", laid_unicode_utf8_first)] }
def ConsistLooserSaid : Prop := consistLooserRow.holds Tryz.pinned (OpenSpec.ofChange consistLooserSpec)

/-- ITS FALSE NEIGHBOUR: 'it returns false'. Refute it at one input. -/
def consistLooserWrong : ChangeSpec := { name := "consistLooser", fn := fun _ => fun
  | [d1, d2, d3, d4] => { results := [.lit (.bool false)], args := [d1, d2, d3, d4] }
  | _ => none }
def ConsistLooserWrongFalsely : Prop := consistLooserRow.holds Tryz.pinned (OpenSpec.ofChange consistLooserWrong)

/-- 'chaperonlaw08.PreciseTells': WHATEVER THE INPUT: true; the input reads as it did. -/
def preciseTellsSpec : ChangeSpec := { name := "preciseTells", fn := fun _ => fun
  | [d1, d2, d3] => { results := [.lit (.bool true)], args := [d1, d2, d3] }
  | _ => none }
def preciseTellsRow : OpenClaim := { program := "ytnjgagbblkjjeaagreatdoor", sum := "9c1a3ece8cf8145a377c67ce7ba8e2edc810ce5c30b4c5bf95661f58245d2d00", func := "chaperon/chaperonlaw08.PreciseTells", spec := "preciseTells", unfollowed := true, recurses := true, named := ["strings.asciiSpace", "unicode/utf8.first", "unicode/utf8.acceptRanges", "unicode.White_Space", "chaperon/words.bases"], plainKeys := false, apart := false, laid := [("unicode/utf8.acceptRanges", laid_unicode_utf8_acceptRanges), ("unicode.White_Space", laid_unicode_White_Space), ("strings.asciiSpace", laid_strings_asciiSpace), ("chaperon/words.bases", laid_chaperon_words_bases), ("unicode/utf8.first", laid_unicode_utf8_first)] }
def PreciseTellsSaid : Prop := preciseTellsRow.holds Tryz.pinned (OpenSpec.ofChange preciseTellsSpec)

/-- ITS FALSE NEIGHBOUR: 'it returns false'. Refute it at one input. -/
def preciseTellsWrong : ChangeSpec := { name := "preciseTells", fn := fun _ => fun
  | [d1, d2, d3] => { results := [.lit (.bool false)], args := [d1, d2, d3] }
  | _ => none }
def PreciseTellsWrongFalsely : Prop := preciseTellsRow.holds Tryz.pinned (OpenSpec.ofChange preciseTellsWrong)

/-- 'chaperonlaw08.PreciseKnown': WHATEVER THE INPUT: true; the input reads as it did. -/
def preciseKnownSpec : ChangeSpec := { name := "preciseKnown", fn := fun _ => fun
  | [] => { results := [.lit (.bool true)], args := [] }
  | _ => none }
def preciseKnownRow : OpenClaim := { program := "ytnjgagbblkjjeaagreatdoor", sum := "9c1a3ece8cf8145a377c67ce7ba8e2edc810ce5c30b4c5bf95661f58245d2d00", func := "chaperon/chaperonlaw08.PreciseKnown", spec := "preciseKnown", unfollowed := true, recurses := true, named := ["strings.asciiSpace", "unicode/utf8.first", "unicode/utf8.acceptRanges", "unicode.White_Space", "chaperon/words.bases"], plainKeys := false, apart := false, laid := [("unicode/utf8.acceptRanges", laid_unicode_utf8_acceptRanges), ("unicode.White_Space", laid_unicode_White_Space), ("strings.asciiSpace", laid_strings_asciiSpace), ("chaperon/words.bases", laid_chaperon_words_bases), ("unicode/utf8.first", laid_unicode_utf8_first)] }
def PreciseKnownSaid : Prop := preciseKnownRow.holds Tryz.pinned (OpenSpec.ofChange preciseKnownSpec)

/-- ITS FALSE NEIGHBOUR: 'it returns false'. Refute it at one input. -/
def preciseKnownWrong : ChangeSpec := { name := "preciseKnown", fn := fun _ => fun
  | [] => { results := [.lit (.bool false)], args := [] }
  | _ => none }
def PreciseKnownWrongFalsely : Prop := preciseKnownRow.holds Tryz.pinned (OpenSpec.ofChange preciseKnownWrong)

/-- 'chaperonlaw08.PreciseGoes': WHATEVER THE INPUT: true; the input reads as it did. -/
def preciseGoesSpec : ChangeSpec := { name := "preciseGoes", fn := fun _ => fun
  | [d1, d2, d3, d4] => { results := [.lit (.bool true)], args := [d1, d2, d3, d4] }
  | _ => none }
def preciseGoesRow : OpenClaim := { program := "ytnjgagbblkjjeaagreatdoor", sum := "9c1a3ece8cf8145a377c67ce7ba8e2edc810ce5c30b4c5bf95661f58245d2d00", func := "chaperon/chaperonlaw08.PreciseGoes", spec := "preciseGoes", unfollowed := true, recurses := true, named := ["strings.asciiSpace", "unicode/utf8.first", "unicode/utf8.acceptRanges", "unicode.White_Space", "chaperon/words.bases"], plainKeys := false, apart := false, laid := [("unicode/utf8.acceptRanges", laid_unicode_utf8_acceptRanges), ("unicode.White_Space", laid_unicode_White_Space), ("strings.asciiSpace", laid_strings_asciiSpace), ("chaperon/words.bases", laid_chaperon_words_bases), ("unicode/utf8.first", laid_unicode_utf8_first)] }
def PreciseGoesSaid : Prop := preciseGoesRow.holds Tryz.pinned (OpenSpec.ofChange preciseGoesSpec)

/-- ITS FALSE NEIGHBOUR: 'it returns false'. Refute it at one input. -/
def preciseGoesWrong : ChangeSpec := { name := "preciseGoes", fn := fun _ => fun
  | [d1, d2, d3, d4] => { results := [.lit (.bool false)], args := [d1, d2, d3, d4] }
  | _ => none }
def PreciseGoesWrongFalsely : Prop := preciseGoesRow.holds Tryz.pinned (OpenSpec.ofChange preciseGoesWrong)

/-- 'chaperonlaw08.PreciseMembers': WHATEVER THE INPUT: true; the input reads as it did. -/
def preciseMembersSpec : ChangeSpec := { name := "preciseMembers", fn := fun _ => fun
  | [d1, d2, d3] => { results := [.lit (.bool true)], args := [d1, d2, d3] }
  | _ => none }
def preciseMembersRow : OpenClaim := { program := "ytnjgagbblkjjeaagreatdoor", sum := "9c1a3ece8cf8145a377c67ce7ba8e2edc810ce5c30b4c5bf95661f58245d2d00", func := "chaperon/chaperonlaw08.PreciseMembers", spec := "preciseMembers", unfollowed := true, recurses := true, named := ["strings.asciiSpace", "unicode/utf8.first", "unicode/utf8.acceptRanges", "unicode.White_Space", "chaperon/words.bases"], plainKeys := false, apart := false, laid := [("unicode/utf8.acceptRanges", laid_unicode_utf8_acceptRanges), ("unicode.White_Space", laid_unicode_White_Space), ("strings.asciiSpace", laid_strings_asciiSpace), ("chaperon/words.bases", laid_chaperon_words_bases), ("unicode/utf8.first", laid_unicode_utf8_first)] }
def PreciseMembersSaid : Prop := preciseMembersRow.holds Tryz.pinned (OpenSpec.ofChange preciseMembersSpec)

/-- ITS FALSE NEIGHBOUR: 'it returns false'. Refute it at one input. -/
def preciseMembersWrong : ChangeSpec := { name := "preciseMembers", fn := fun _ => fun
  | [d1, d2, d3] => { results := [.lit (.bool false)], args := [d1, d2, d3] }
  | _ => none }
def PreciseMembersWrongFalsely : Prop := preciseMembersRow.holds Tryz.pinned (OpenSpec.ofChange preciseMembersWrong)

/-- 'chaperonlaw08.PreciseGreatest': WHATEVER THE INPUT: true; the input reads as it did. -/
def preciseGreatestSpec : ChangeSpec := { name := "preciseGreatest", fn := fun _ => fun
  | [d1, d2, d3] => { results := [.lit (.bool true)], args := [d1, d2, d3] }
  | _ => none }
def preciseGreatestRow : OpenClaim := { program := "ytnjgagbblkjjeaagreatdoor", sum := "9c1a3ece8cf8145a377c67ce7ba8e2edc810ce5c30b4c5bf95661f58245d2d00", func := "chaperon/chaperonlaw08.PreciseGreatest", spec := "preciseGreatest", unfollowed := true, recurses := true, named := ["strings.asciiSpace", "unicode/utf8.first", "unicode/utf8.acceptRanges", "unicode.White_Space", "chaperon/words.bases"], plainKeys := false, apart := false, laid := [("unicode/utf8.acceptRanges", laid_unicode_utf8_acceptRanges), ("unicode.White_Space", laid_unicode_White_Space), ("strings.asciiSpace", laid_strings_asciiSpace), ("chaperon/words.bases", laid_chaperon_words_bases), ("unicode/utf8.first", laid_unicode_utf8_first)] }
def PreciseGreatestSaid : Prop := preciseGreatestRow.holds Tryz.pinned (OpenSpec.ofChange preciseGreatestSpec)

/-- ITS FALSE NEIGHBOUR: 'it returns false'. Refute it at one input. -/
def preciseGreatestWrong : ChangeSpec := { name := "preciseGreatest", fn := fun _ => fun
  | [d1, d2, d3] => { results := [.lit (.bool false)], args := [d1, d2, d3] }
  | _ => none }
def PreciseGreatestWrongFalsely : Prop := preciseGreatestRow.holds Tryz.pinned (OpenSpec.ofChange preciseGreatestWrong)

/- THE SECOND FORM. 'bulk': how many values and letters a reading holds, each counted each time it is reached (what is shared counts as often as it is met; a slice's spare places count too). A statement '..UptoSaid' is the law's where the arguments, and the package variables that the reading takes, are together of bulk at most 1048576: NARROWER than '..Said'. Prove '..Said' where nothing that the law and all that it calls make is longer than what came in: it says more and counts as full. Else prove '..UptoSaid'. A law counts once. -/
mutual
def uptoBulk {H : Type} : DataW H → Nat
  | .lit (.string bytes) => bytes.length + 1
  | .lit _ => 1
  | .nil => 1
  | .ptr d => uptoBulk d + 1
  | .slice elems spare => uptoBulkAll elems + uptoBulkAll spare + 1
  | .agg parts => uptoBulkAll parts + 1
  | .iface _ d => uptoBulk d + 1
  | .map entries => uptoBulkEntries entries + 1
  | .held _ => 1
def uptoBulkAll {H : Type} : List (DataW H) → Nat
  | [] => 0
  | d :: r => uptoBulk d + uptoBulkAll r
def uptoBulkEntries {H : Type} : List (Lit × DataW H) → Nat
  | [] => 0
  | x :: r => uptoBulkEntry x + uptoBulkEntries r
def uptoBulkEntry {H : Type} : Lit × DataW H → Nat
  | (.string bytes, d) => bytes.length + uptoBulk d + 1
  | (_, d) => uptoBulk d + 1
 end
def uptoSmall : (H : Type) → List (DataW H) → Bool := fun _ ds => decide (uptoBulkAll ds ≤ 1048576)
def OpenSpec.upto (s : _root_.Go.ChangeSpec) : _root_.Go.OpenSpec := { _root_.Go.OpenSpec.ofChange s with cond := some uptoSmall }

/-- 'chaperonlaw06.SubtypeTells', WHERE WHAT IT READS IS OF BULK AT MOST 1048576: true; the input reads as it did. -/
def subtypeTellsUptoRow : OpenClaim := { program := "ytnjgagbblkjjeaagreatdoor", sum := "9c1a3ece8cf8145a377c67ce7ba8e2edc810ce5c30b4c5bf95661f58245d2d00", func := "chaperon/chaperonlaw06.SubtypeTells", spec := "subtypeTells", unfollowed := true, recurses := true, named := ["strings.asciiSpace", "unicode/utf8.first", "unicode/utf8.acceptRanges", "unicode.White_Space", "chaperon/words.bases"], plainKeys := false, apart := false, laid := [("unicode/utf8.acceptRanges", laid_unicode_utf8_acceptRanges), ("unicode.White_Space", laid_unicode_White_Space), ("strings.asciiSpace", laid_strings_asciiSpace), ("chaperon/words.bases", laid_chaperon_words_bases), ("unicode/utf8.first", laid_unicode_utf8_first)], narrowed := true }
def SubtypeTellsUptoSaid : Prop := subtypeTellsUptoRow.holds Tryz.pinned (OpenSpec.upto subtypeTellsSpec)

/-- 'chaperonlaw07.ConsistTells', WHERE WHAT IT READS IS OF BULK AT MOST 1048576: true; the input reads as it did. -/
def consistTellsUptoRow : OpenClaim := { program := "ytnjgagbblkjjeaagreatdoor", sum := "9c1a3ece8cf8145a377c67ce7ba8e2edc810ce5c30b4c5bf95661f58245d2d00", func := "chaperon/chaperonlaw07.ConsistTells", spec := "consistTells", unfollowed := true, recurses := true, named := ["strings.asciiSpace", "unicode/utf8.first", "unicode/utf8.acceptRanges", "unicode.White_Space", "chaperon/words.bases"], plainKeys := false, apart := false, laid := [("unicode/utf8.acceptRanges", laid_unicode_utf8_acceptRanges), ("unicode.White_Space", laid_unicode_White_Space), ("strings.asciiSpace", laid_strings_asciiSpace), ("chaperon/words.bases", laid_chaperon_words_bases), ("unicode/utf8.first", laid_unicode_utf8_first)], narrowed := true }
def ConsistTellsUptoSaid : Prop := consistTellsUptoRow.holds Tryz.pinned (OpenSpec.upto consistTellsSpec)

/-- 'chaperonlaw07.ConsistGreatest', WHERE WHAT IT READS IS OF BULK AT MOST 1048576: true; the input reads as it did. -/
def consistGreatestUptoRow : OpenClaim := { program := "ytnjgagbblkjjeaagreatdoor", sum := "9c1a3ece8cf8145a377c67ce7ba8e2edc810ce5c30b4c5bf95661f58245d2d00", func := "chaperon/chaperonlaw07.ConsistGreatest", spec := "consistGreatest", unfollowed := true, recurses := true, named := ["strings.asciiSpace", "unicode/utf8.first", "unicode/utf8.acceptRanges", "unicode.White_Space", "chaperon/words.bases"], plainKeys := false, apart := false, laid := [("unicode/utf8.acceptRanges", laid_unicode_utf8_acceptRanges), ("unicode.White_Space", laid_unicode_White_Space), ("strings.asciiSpace", laid_strings_asciiSpace), ("chaperon/words.bases", laid_chaperon_words_bases), ("unicode/utf8.first", laid_unicode_utf8_first)], narrowed := true }
def ConsistGreatestUptoSaid : Prop := consistGreatestUptoRow.holds Tryz.pinned (OpenSpec.upto consistGreatestSpec)

/-- 'chaperonlaw07.ConsistLooser', WHERE WHAT IT READS IS OF BULK AT MOST 1048576: true; the input reads as it did. -/
def consistLooserUptoRow : OpenClaim := { program := "ytnjgagbblkjjeaagreatdoor", sum := "9c1a3ece8cf8145a377c67ce7ba8e2edc810ce5c30b4c5bf95661f58245d2d00", func := "chaperon/chaperonlaw07.ConsistLooser", spec := "consistLooser", unfollowed := true, recurses := true, named := ["strings.asciiSpace", "unicode/utf8.first", "unicode/utf8.acceptRanges", "unicode.White_Space", "chaperon/words.bases"], plainKeys := false, apart := false, laid := [("unicode/utf8.acceptRanges", laid_unicode_utf8_acceptRanges), ("unicode.White_Space", laid_unicode_White_Space), ("strings.asciiSpace", laid_strings_asciiSpace), ("chaperon/words.bases", laid_chaperon_words_bases), ("unicode/utf8.first", laid_unicode_utf8_first)], narrowed := true }
def ConsistLooserUptoSaid : Prop := consistLooserUptoRow.holds Tryz.pinned (OpenSpec.upto consistLooserSpec)

/-- 'chaperonlaw08.PreciseTells', WHERE WHAT IT READS IS OF BULK AT MOST 1048576: true; the input reads as it did. -/
def preciseTellsUptoRow : OpenClaim := { program := "ytnjgagbblkjjeaagreatdoor", sum := "9c1a3ece8cf8145a377c67ce7ba8e2edc810ce5c30b4c5bf95661f58245d2d00", func := "chaperon/chaperonlaw08.PreciseTells", spec := "preciseTells", unfollowed := true, recurses := true, named := ["strings.asciiSpace", "unicode/utf8.first", "unicode/utf8.acceptRanges", "unicode.White_Space", "chaperon/words.bases"], plainKeys := false, apart := false, laid := [("unicode/utf8.acceptRanges", laid_unicode_utf8_acceptRanges), ("unicode.White_Space", laid_unicode_White_Space), ("strings.asciiSpace", laid_strings_asciiSpace), ("chaperon/words.bases", laid_chaperon_words_bases), ("unicode/utf8.first", laid_unicode_utf8_first)], narrowed := true }
def PreciseTellsUptoSaid : Prop := preciseTellsUptoRow.holds Tryz.pinned (OpenSpec.upto preciseTellsSpec)

/-- 'chaperonlaw08.PreciseKnown', WHERE WHAT IT READS IS OF BULK AT MOST 1048576: true; the input reads as it did. -/
def preciseKnownUptoRow : OpenClaim := { program := "ytnjgagbblkjjeaagreatdoor", sum := "9c1a3ece8cf8145a377c67ce7ba8e2edc810ce5c30b4c5bf95661f58245d2d00", func := "chaperon/chaperonlaw08.PreciseKnown", spec := "preciseKnown", unfollowed := true, recurses := true, named := ["strings.asciiSpace", "unicode/utf8.first", "unicode/utf8.acceptRanges", "unicode.White_Space", "chaperon/words.bases"], plainKeys := false, apart := false, laid := [("unicode/utf8.acceptRanges", laid_unicode_utf8_acceptRanges), ("unicode.White_Space", laid_unicode_White_Space), ("strings.asciiSpace", laid_strings_asciiSpace), ("chaperon/words.bases", laid_chaperon_words_bases), ("unicode/utf8.first", laid_unicode_utf8_first)], narrowed := true }
def PreciseKnownUptoSaid : Prop := preciseKnownUptoRow.holds Tryz.pinned (OpenSpec.upto preciseKnownSpec)

/-- 'chaperonlaw08.PreciseGoes', WHERE WHAT IT READS IS OF BULK AT MOST 1048576: true; the input reads as it did. -/
def preciseGoesUptoRow : OpenClaim := { program := "ytnjgagbblkjjeaagreatdoor", sum := "9c1a3ece8cf8145a377c67ce7ba8e2edc810ce5c30b4c5bf95661f58245d2d00", func := "chaperon/chaperonlaw08.PreciseGoes", spec := "preciseGoes", unfollowed := true, recurses := true, named := ["strings.asciiSpace", "unicode/utf8.first", "unicode/utf8.acceptRanges", "unicode.White_Space", "chaperon/words.bases"], plainKeys := false, apart := false, laid := [("unicode/utf8.acceptRanges", laid_unicode_utf8_acceptRanges), ("unicode.White_Space", laid_unicode_White_Space), ("strings.asciiSpace", laid_strings_asciiSpace), ("chaperon/words.bases", laid_chaperon_words_bases), ("unicode/utf8.first", laid_unicode_utf8_first)], narrowed := true }
def PreciseGoesUptoSaid : Prop := preciseGoesUptoRow.holds Tryz.pinned (OpenSpec.upto preciseGoesSpec)

/-- 'chaperonlaw08.PreciseMembers', WHERE WHAT IT READS IS OF BULK AT MOST 1048576: true; the input reads as it did. -/
def preciseMembersUptoRow : OpenClaim := { program := "ytnjgagbblkjjeaagreatdoor", sum := "9c1a3ece8cf8145a377c67ce7ba8e2edc810ce5c30b4c5bf95661f58245d2d00", func := "chaperon/chaperonlaw08.PreciseMembers", spec := "preciseMembers", unfollowed := true, recurses := true, named := ["strings.asciiSpace", "unicode/utf8.first", "unicode/utf8.acceptRanges", "unicode.White_Space", "chaperon/words.bases"], plainKeys := false, apart := false, laid := [("unicode/utf8.acceptRanges", laid_unicode_utf8_acceptRanges), ("unicode.White_Space", laid_unicode_White_Space), ("strings.asciiSpace", laid_strings_asciiSpace), ("chaperon/words.bases", laid_chaperon_words_bases), ("unicode/utf8.first", laid_unicode_utf8_first)], narrowed := true }
def PreciseMembersUptoSaid : Prop := preciseMembersUptoRow.holds Tryz.pinned (OpenSpec.upto preciseMembersSpec)

/-- 'chaperonlaw08.PreciseGreatest', WHERE WHAT IT READS IS OF BULK AT MOST 1048576: true; the input reads as it did. -/
def preciseGreatestUptoRow : OpenClaim := { program := "ytnjgagbblkjjeaagreatdoor", sum := "9c1a3ece8cf8145a377c67ce7ba8e2edc810ce5c30b4c5bf95661f58245d2d00", func := "chaperon/chaperonlaw08.PreciseGreatest", spec := "preciseGreatest", unfollowed := true, recurses := true, named := ["strings.asciiSpace", "unicode/utf8.first", "unicode/utf8.acceptRanges", "unicode.White_Space", "chaperon/words.bases"], plainKeys := false, apart := false, laid := [("unicode/utf8.acceptRanges", laid_unicode_utf8_acceptRanges), ("unicode.White_Space", laid_unicode_White_Space), ("strings.asciiSpace", laid_strings_asciiSpace), ("chaperon/words.bases", laid_chaperon_words_bases), ("unicode/utf8.first", laid_unicode_utf8_first)], narrowed := true }
def PreciseGreatestUptoSaid : Prop := preciseGreatestUptoRow.holds Tryz.pinned (OpenSpec.upto preciseGreatestSpec)

end Rows
end Go.Proofs.YtnjgagbblkjjeaaGreatDoor
