/-
  NARROWER THAN 'FOR EVERY INPUT', by the rows' own cells (each row's printed sentence says how): TableKnown: laid · TableOnce: laid · TableAbove: laid · SubtypeKnown: laid · SubtypeOrder: laid · SubtypeJoin: laid · SubtypeHas: laid · ConsistKnown: laid.
  DERIVED. THE GIVEN ROWS OF THIS SEAT. 8 by the template 'for every input the law returns true; each argument reads behind the call as it read before'; 0 by the template 'total and deterministic' (their statements: YtbjomddjbfgclaaDoorTotals.lean).
  GIVEN WITH THE SEED: the statements are not yours to turn. If you find one false, say at which input.
  Laid BY PROGRAM, IN A SANDBOX (cutbox-rows.mjs): the forced cells as the released guide's own fill.sh prints them over the translation 8a5bf7fd1b3b3e2c… (all of the seat's roots in one cut). By AI agents, Wed Nov 11 2026. No macro, syntax, notation, axiom, sorry.
-/
import Derived.Test.YtbjomddjbfgclaaDoorChecked
import GoSem.PinnedTables
import GoSem.Claim
import GoSem.ClaimJoined
import GoSem.ClaimMapViews
import Derived.JoinedTies
import Derived.KernelRfl
namespace Go.Proofs.YtbjomddjbfgclaaDoor
/- THE CELL 'sum', in the pinned program and in every row, IS THE sha256 OF THE DUMP (.gsa) THAT YtbjomddjbfgclaaDoorProg.lean LOADS. Nothing in Lean hashes anything: it is a label: what it is worth is what the hold of that sum in a sandbox is worth. -/
noncomputable def Tryd.pinned : Pinned := { name := "ytbjomddjbfgclaadoor", sum := "8a5bf7fd1b3b3e2c447d22127f716fb31bee8fe315d4c64962612e8ed5f5fd1d", checked := Tryd.checked }
namespace Rows
def none {H : Type} : Left H := { results := [], args := [] }

/- WHAT THE LISTED PACKAGE-LEVEL VARIABLES READ AS WHEN THE CALL BEGINS. Each datum BY PROGRAM (the guide's laid-datum.mjs) off the statement by which the dump's own 'gosem.cut.vars' lays the variable. In a bare row this is a premise. The card (YtbjomddjbfgclaaDoorCards.lean) ties it to the program's text. -/
def laid_unicode_utf8_acceptRanges {H : Type} : DataW H := .agg [.agg [.lit (.int .u8 128), .lit (.int .u8 191)], .agg [.lit (.int .u8 160), .lit (.int .u8 191)], .agg [.lit (.int .u8 128), .lit (.int .u8 159)], .agg [.lit (.int .u8 144), .lit (.int .u8 191)], .agg [.lit (.int .u8 128), .lit (.int .u8 143)], .agg [.lit (.int .u8 0), .lit (.int .u8 0)], .agg [.lit (.int .u8 0), .lit (.int .u8 0)], .agg [.lit (.int .u8 0), .lit (.int .u8 0)], .agg [.lit (.int .u8 0), .lit (.int .u8 0)], .agg [.lit (.int .u8 0), .lit (.int .u8 0)], .agg [.lit (.int .u8 0), .lit (.int .u8 0)], .agg [.lit (.int .u8 0), .lit (.int .u8 0)], .agg [.lit (.int .u8 0), .lit (.int .u8 0)], .agg [.lit (.int .u8 0), .lit (.int .u8 0)], .agg [.lit (.int .u8 0), .lit (.int .u8 0)], .agg [.lit (.int .u8 0), .lit (.int .u8 0)]]
def laid_unicode_White_Space {H : Type} : DataW H := .ptr (.agg [.slice [.agg [.lit (.int .u16 9), .lit (.int .u16 13), .lit (.int .u16 1)], .agg [.lit (.int .u16 32), .lit (.int .u16 133), .lit (.int .u16 101)], .agg [.lit (.int .u16 160), .lit (.int .u16 5760), .lit (.int .u16 5600)], .agg [.lit (.int .u16 8192), .lit (.int .u16 8202), .lit (.int .u16 1)], .agg [.lit (.int .u16 8232), .lit (.int .u16 8233), .lit (.int .u16 1)], .agg [.lit (.int .u16 8239), .lit (.int .u16 8287), .lit (.int .u16 48)], .agg [.lit (.int .u16 12288), .lit (.int .u16 12288), .lit (.int .u16 1)]] [], .nil, .lit (.int .i64 2)])
def laid_strings_asciiSpace {H : Type} : DataW H := .agg [.lit (.int .u8 0), .lit (.int .u8 0), .lit (.int .u8 0), .lit (.int .u8 0), .lit (.int .u8 0), .lit (.int .u8 0), .lit (.int .u8 0), .lit (.int .u8 0), .lit (.int .u8 0), .lit (.int .u8 1), .lit (.int .u8 1), .lit (.int .u8 1), .lit (.int .u8 1), .lit (.int .u8 1), .lit (.int .u8 0), .lit (.int .u8 0), .lit (.int .u8 0), .lit (.int .u8 0), .lit (.int .u8 0), .lit (.int .u8 0), .lit (.int .u8 0), .lit (.int .u8 0), .lit (.int .u8 0), .lit (.int .u8 0), .lit (.int .u8 0), .lit (.int .u8 0), .lit (.int .u8 0), .lit (.int .u8 0), .lit (.int .u8 0), .lit (.int .u8 0), .lit (.int .u8 0), .lit (.int .u8 0), .lit (.int .u8 1), .lit (.int .u8 0), .lit (.int .u8 0), .lit (.int .u8 0), .lit (.int .u8 0), .lit (.int .u8 0), .lit (.int .u8 0), .lit (.int .u8 0), .lit (.int .u8 0), .lit (.int .u8 0), .lit (.int .u8 0), .lit (.int .u8 0), .lit (.int .u8 0), .lit (.int .u8 0), .lit (.int .u8 0), .lit (.int .u8 0), .lit (.int .u8 0), .lit (.int .u8 0), .lit (.int .u8 0), .lit (.int .u8 0), .lit (.int .u8 0), .lit (.int .u8 0), .lit (.int .u8 0), .lit (.int .u8 0), .lit (.int .u8 0), .lit (.int .u8 0), .lit (.int .u8 0), .lit (.int .u8 0), .lit (.int .u8 0), .lit (.int .u8 0), .lit (.int .u8 0), .lit (.int .u8 0), .lit (.int .u8 0), .lit (.int .u8 0), .lit (.int .u8 0), .lit (.int .u8 0), .lit (.int .u8 0), .lit (.int .u8 0), .lit (.int .u8 0), .lit (.int .u8 0), .lit (.int .u8 0), .lit (.int .u8 0), .lit (.int .u8 0), .lit (.int .u8 0), .lit (.int .u8 0), .lit (.int .u8 0), .lit (.int .u8 0), .lit (.int .u8 0), .lit (.int .u8 0), .lit (.int .u8 0), .lit (.int .u8 0), .lit (.int .u8 0), .lit (.int .u8 0), .lit (.int .u8 0), .lit (.int .u8 0), .lit (.int .u8 0), .lit (.int .u8 0), .lit (.int .u8 0), .lit (.int .u8 0), .lit (.int .u8 0), .lit (.int .u8 0), .lit (.int .u8 0), .lit (.int .u8 0), .lit (.int .u8 0), .lit (.int .u8 0), .lit (.int .u8 0), .lit (.int .u8 0), .lit (.int .u8 0), .lit (.int .u8 0), .lit (.int .u8 0), .lit (.int .u8 0), .lit (.int .u8 0), .lit (.int .u8 0), .lit (.int .u8 0), .lit (.int .u8 0), .lit (.int .u8 0), .lit (.int .u8 0), .lit (.int .u8 0), .lit (.int .u8 0), .lit (.int .u8 0), .lit (.int .u8 0), .lit (.int .u8 0), .lit (.int .u8 0), .lit (.int .u8 0), .lit (.int .u8 0), .lit (.int .u8 0), .lit (.int .u8 0), .lit (.int .u8 0), .lit (.int .u8 0), .lit (.int .u8 0), .lit (.int .u8 0), .lit (.int .u8 0), .lit (.int .u8 0), .lit (.int .u8 0), .lit (.int .u8 0), .lit (.int .u8 0), .lit (.int .u8 0), .lit (.int .u8 0), .lit (.int .u8 0), .lit (.int .u8 0), .lit (.int .u8 0), .lit (.int .u8 0), .lit (.int .u8 0), .lit (.int .u8 0), .lit (.int .u8 0), .lit (.int .u8 0), .lit (.int .u8 0), .lit (.int .u8 0), .lit (.int .u8 0), .lit (.int .u8 0), .lit (.int .u8 0), .lit (.int .u8 0), .lit (.int .u8 0), .lit (.int .u8 0), .lit (.int .u8 0), .lit (.int .u8 0), .lit (.int .u8 0), .lit (.int .u8 0), .lit (.int .u8 0), .lit (.int .u8 0), .lit (.int .u8 0), .lit (.int .u8 0), .lit (.int .u8 0), .lit (.int .u8 0), .lit (.int .u8 0), .lit (.int .u8 0), .lit (.int .u8 0), .lit (.int .u8 0), .lit (.int .u8 0), .lit (.int .u8 0), .lit (.int .u8 0), .lit (.int .u8 0), .lit (.int .u8 0), .lit (.int .u8 0), .lit (.int .u8 0), .lit (.int .u8 0), .lit (.int .u8 0), .lit (.int .u8 0), .lit (.int .u8 0), .lit (.int .u8 0), .lit (.int .u8 0), .lit (.int .u8 0), .lit (.int .u8 0), .lit (.int .u8 0), .lit (.int .u8 0), .lit (.int .u8 0), .lit (.int .u8 0), .lit (.int .u8 0), .lit (.int .u8 0), .lit (.int .u8 0), .lit (.int .u8 0), .lit (.int .u8 0), .lit (.int .u8 0), .lit (.int .u8 0), .lit (.int .u8 0), .lit (.int .u8 0), .lit (.int .u8 0), .lit (.int .u8 0), .lit (.int .u8 0), .lit (.int .u8 0), .lit (.int .u8 0), .lit (.int .u8 0), .lit (.int .u8 0), .lit (.int .u8 0), .lit (.int .u8 0), .lit (.int .u8 0), .lit (.int .u8 0), .lit (.int .u8 0), .lit (.int .u8 0), .lit (.int .u8 0), .lit (.int .u8 0), .lit (.int .u8 0), .lit (.int .u8 0), .lit (.int .u8 0), .lit (.int .u8 0), .lit (.int .u8 0), .lit (.int .u8 0), .lit (.int .u8 0), .lit (.int .u8 0), .lit (.int .u8 0), .lit (.int .u8 0), .lit (.int .u8 0), .lit (.int .u8 0), .lit (.int .u8 0), .lit (.int .u8 0), .lit (.int .u8 0), .lit (.int .u8 0), .lit (.int .u8 0), .lit (.int .u8 0), .lit (.int .u8 0), .lit (.int .u8 0), .lit (.int .u8 0), .lit (.int .u8 0), .lit (.int .u8 0), .lit (.int .u8 0), .lit (.int .u8 0), .lit (.int .u8 0), .lit (.int .u8 0), .lit (.int .u8 0), .lit (.int .u8 0), .lit (.int .u8 0), .lit (.int .u8 0), .lit (.int .u8 0), .lit (.int .u8 0), .lit (.int .u8 0), .lit (.int .u8 0), .lit (.int .u8 0), .lit (.int .u8 0), .lit (.int .u8 0), .lit (.int .u8 0), .lit (.int .u8 0), .lit (.int .u8 0), .lit (.int .u8 0), .lit (.int .u8 0), .lit (.int .u8 0), .lit (.int .u8 0), .lit (.int .u8 0), .lit (.int .u8 0), .lit (.int .u8 0), .lit (.int .u8 0), .lit (.int .u8 0), .lit (.int .u8 0), .lit (.int .u8 0), .lit (.int .u8 0)]
def laid_chaperon_words_bases {H : Type} : DataW H := .agg [.agg [.lit (.string [105, 110, 116]), .lit (.int .i64 1)], .agg [.lit (.string [114, 101, 97, 108]), .lit (.int .i64 2)], .agg [.lit (.string [98, 111, 111, 108]), .lit (.int .i64 3)], .agg [.lit (.string [115, 116, 114]), .lit (.int .i64 4)], .agg [.lit (.string [117, 110, 105, 116]), .lit (.int .i64 5)]]
/-- One of Go's own tables, pinned by name: the form's constant. -/
def laid_unicode_utf8_first : DataW Unit := Go.Pinned.utf8First

/-- 'chaperonlaw05.TableKnown': WHATEVER THE INPUT: true; the input reads as it did. -/
def tableKnownSpec : ChangeSpec := { name := "tableKnown", fn := fun _ => fun
  | [] => { results := [.lit (.bool true)], args := [] }
  | _ => none }
def tableKnownRow : OpenClaim := { program := "ytbjomddjbfgclaadoor", sum := "8a5bf7fd1b3b3e2c447d22127f716fb31bee8fe315d4c64962612e8ed5f5fd1d", func := "chaperon/chaperonlaw05.TableKnown", spec := "tableKnown", unfollowed := true, recurses := true, named := ["strings.asciiSpace", "unicode/utf8.first", "unicode/utf8.acceptRanges", "unicode.White_Space", "chaperon/words.bases"], apart := false, laid := [("unicode/utf8.acceptRanges", laid_unicode_utf8_acceptRanges), ("unicode.White_Space", laid_unicode_White_Space), ("strings.asciiSpace", laid_strings_asciiSpace), ("chaperon/words.bases", laid_chaperon_words_bases), ("unicode/utf8.first", laid_unicode_utf8_first)] }
def TableKnownSaid : Prop := tableKnownRow.holds Tryd.pinned (OpenSpec.ofChange tableKnownSpec)

/-- ITS FALSE NEIGHBOUR: 'it returns false'. Refute it at one input. -/
def tableKnownWrong : ChangeSpec := { name := "tableKnown", fn := fun _ => fun
  | [] => { results := [.lit (.bool false)], args := [] }
  | _ => none }
def TableKnownWrongFalsely : Prop := tableKnownRow.holds Tryd.pinned (OpenSpec.ofChange tableKnownWrong)

/-- 'chaperonlaw05.TableOnce': WHATEVER THE INPUT: true; the input reads as it did. -/
def tableOnceSpec : ChangeSpec := { name := "tableOnce", fn := fun _ => fun
  | [d1, d2] => { results := [.lit (.bool true)], args := [d1, d2] }
  | _ => none }
def tableOnceRow : OpenClaim := { program := "ytbjomddjbfgclaadoor", sum := "8a5bf7fd1b3b3e2c447d22127f716fb31bee8fe315d4c64962612e8ed5f5fd1d", func := "chaperon/chaperonlaw05.TableOnce", spec := "tableOnce", unfollowed := true, recurses := true, named := ["strings.asciiSpace", "unicode/utf8.first", "unicode/utf8.acceptRanges", "unicode.White_Space", "chaperon/words.bases"], apart := false, laid := [("unicode/utf8.acceptRanges", laid_unicode_utf8_acceptRanges), ("unicode.White_Space", laid_unicode_White_Space), ("strings.asciiSpace", laid_strings_asciiSpace), ("chaperon/words.bases", laid_chaperon_words_bases), ("unicode/utf8.first", laid_unicode_utf8_first)] }
def TableOnceSaid : Prop := tableOnceRow.holds Tryd.pinned (OpenSpec.ofChange tableOnceSpec)

/-- ITS FALSE NEIGHBOUR: 'it returns false'. Refute it at one input. -/
def tableOnceWrong : ChangeSpec := { name := "tableOnce", fn := fun _ => fun
  | [d1, d2] => { results := [.lit (.bool false)], args := [d1, d2] }
  | _ => none }
def TableOnceWrongFalsely : Prop := tableOnceRow.holds Tryd.pinned (OpenSpec.ofChange tableOnceWrong)

/-- 'chaperonlaw05.TableAbove': WHATEVER THE INPUT: true; the input reads as it did. -/
def tableAboveSpec : ChangeSpec := { name := "tableAbove", fn := fun _ => fun
  | [d1, d2] => { results := [.lit (.bool true)], args := [d1, d2] }
  | _ => none }
def tableAboveRow : OpenClaim := { program := "ytbjomddjbfgclaadoor", sum := "8a5bf7fd1b3b3e2c447d22127f716fb31bee8fe315d4c64962612e8ed5f5fd1d", func := "chaperon/chaperonlaw05.TableAbove", spec := "tableAbove", unfollowed := true, recurses := true, named := ["strings.asciiSpace", "unicode/utf8.first", "unicode/utf8.acceptRanges", "unicode.White_Space", "chaperon/words.bases"], apart := false, laid := [("unicode/utf8.acceptRanges", laid_unicode_utf8_acceptRanges), ("unicode.White_Space", laid_unicode_White_Space), ("strings.asciiSpace", laid_strings_asciiSpace), ("chaperon/words.bases", laid_chaperon_words_bases), ("unicode/utf8.first", laid_unicode_utf8_first)] }
def TableAboveSaid : Prop := tableAboveRow.holds Tryd.pinned (OpenSpec.ofChange tableAboveSpec)

/-- ITS FALSE NEIGHBOUR: 'it returns false'. Refute it at one input. -/
def tableAboveWrong : ChangeSpec := { name := "tableAbove", fn := fun _ => fun
  | [d1, d2] => { results := [.lit (.bool false)], args := [d1, d2] }
  | _ => none }
def TableAboveWrongFalsely : Prop := tableAboveRow.holds Tryd.pinned (OpenSpec.ofChange tableAboveWrong)

/-- 'chaperonlaw06.SubtypeKnown': WHATEVER THE INPUT: true; the input reads as it did. -/
def subtypeKnownSpec : ChangeSpec := { name := "subtypeKnown", fn := fun _ => fun
  | [] => { results := [.lit (.bool true)], args := [] }
  | _ => none }
def subtypeKnownRow : OpenClaim := { program := "ytbjomddjbfgclaadoor", sum := "8a5bf7fd1b3b3e2c447d22127f716fb31bee8fe315d4c64962612e8ed5f5fd1d", func := "chaperon/chaperonlaw06.SubtypeKnown", spec := "subtypeKnown", unfollowed := true, recurses := true, named := ["strings.asciiSpace", "unicode/utf8.first", "unicode/utf8.acceptRanges", "unicode.White_Space", "chaperon/words.bases"], apart := false, laid := [("unicode/utf8.acceptRanges", laid_unicode_utf8_acceptRanges), ("unicode.White_Space", laid_unicode_White_Space), ("strings.asciiSpace", laid_strings_asciiSpace), ("chaperon/words.bases", laid_chaperon_words_bases), ("unicode/utf8.first", laid_unicode_utf8_first)] }
def SubtypeKnownSaid : Prop := subtypeKnownRow.holds Tryd.pinned (OpenSpec.ofChange subtypeKnownSpec)

/-- ITS FALSE NEIGHBOUR: 'it returns false'. Refute it at one input. -/
def subtypeKnownWrong : ChangeSpec := { name := "subtypeKnown", fn := fun _ => fun
  | [] => { results := [.lit (.bool false)], args := [] }
  | _ => none }
def SubtypeKnownWrongFalsely : Prop := subtypeKnownRow.holds Tryd.pinned (OpenSpec.ofChange subtypeKnownWrong)

/-- 'chaperonlaw06.SubtypeOrder': WHATEVER THE INPUT: true; the input reads as it did. -/
def subtypeOrderSpec : ChangeSpec := { name := "subtypeOrder", fn := fun _ => fun
  | [d1, d2, d3, d4] => { results := [.lit (.bool true)], args := [d1, d2, d3, d4] }
  | _ => none }
def subtypeOrderRow : OpenClaim := { program := "ytbjomddjbfgclaadoor", sum := "8a5bf7fd1b3b3e2c447d22127f716fb31bee8fe315d4c64962612e8ed5f5fd1d", func := "chaperon/chaperonlaw06.SubtypeOrder", spec := "subtypeOrder", unfollowed := true, recurses := true, named := ["strings.asciiSpace", "unicode/utf8.first", "unicode/utf8.acceptRanges", "unicode.White_Space", "chaperon/words.bases"], apart := false, laid := [("unicode/utf8.acceptRanges", laid_unicode_utf8_acceptRanges), ("unicode.White_Space", laid_unicode_White_Space), ("strings.asciiSpace", laid_strings_asciiSpace), ("chaperon/words.bases", laid_chaperon_words_bases), ("unicode/utf8.first", laid_unicode_utf8_first)] }
def SubtypeOrderSaid : Prop := subtypeOrderRow.holds Tryd.pinned (OpenSpec.ofChange subtypeOrderSpec)

/-- ITS FALSE NEIGHBOUR: 'it returns false'. Refute it at one input. -/
def subtypeOrderWrong : ChangeSpec := { name := "subtypeOrder", fn := fun _ => fun
  | [d1, d2, d3, d4] => { results := [.lit (.bool false)], args := [d1, d2, d3, d4] }
  | _ => none }
def SubtypeOrderWrongFalsely : Prop := subtypeOrderRow.holds Tryd.pinned (OpenSpec.ofChange subtypeOrderWrong)

/-- 'chaperonlaw06.SubtypeJoin': WHATEVER THE INPUT: true; the input reads as it did. -/
def subtypeJoinSpec : ChangeSpec := { name := "subtypeJoin", fn := fun _ => fun
  | [d1, d2, d3, d4] => { results := [.lit (.bool true)], args := [d1, d2, d3, d4] }
  | _ => none }
def subtypeJoinRow : OpenClaim := { program := "ytbjomddjbfgclaadoor", sum := "8a5bf7fd1b3b3e2c447d22127f716fb31bee8fe315d4c64962612e8ed5f5fd1d", func := "chaperon/chaperonlaw06.SubtypeJoin", spec := "subtypeJoin", unfollowed := true, recurses := true, named := ["strings.asciiSpace", "unicode/utf8.first", "unicode/utf8.acceptRanges", "unicode.White_Space", "chaperon/words.bases"], apart := false, laid := [("unicode/utf8.acceptRanges", laid_unicode_utf8_acceptRanges), ("unicode.White_Space", laid_unicode_White_Space), ("strings.asciiSpace", laid_strings_asciiSpace), ("chaperon/words.bases", laid_chaperon_words_bases), ("unicode/utf8.first", laid_unicode_utf8_first)] }
def SubtypeJoinSaid : Prop := subtypeJoinRow.holds Tryd.pinned (OpenSpec.ofChange subtypeJoinSpec)

/-- ITS FALSE NEIGHBOUR: 'it returns false'. Refute it at one input. -/
def subtypeJoinWrong : ChangeSpec := { name := "subtypeJoin", fn := fun _ => fun
  | [d1, d2, d3, d4] => { results := [.lit (.bool false)], args := [d1, d2, d3, d4] }
  | _ => none }
def SubtypeJoinWrongFalsely : Prop := subtypeJoinRow.holds Tryd.pinned (OpenSpec.ofChange subtypeJoinWrong)

/-- 'chaperonlaw06.SubtypeHas': WHATEVER THE INPUT: true; the input reads as it did. -/
def subtypeHasSpec : ChangeSpec := { name := "subtypeHas", fn := fun _ => fun
  | [d1, d2] => { results := [.lit (.bool true)], args := [d1, d2] }
  | _ => none }
def subtypeHasRow : OpenClaim := { program := "ytbjomddjbfgclaadoor", sum := "8a5bf7fd1b3b3e2c447d22127f716fb31bee8fe315d4c64962612e8ed5f5fd1d", func := "chaperon/chaperonlaw06.SubtypeHas", spec := "subtypeHas", unfollowed := true, recurses := true, named := ["strings.asciiSpace", "unicode/utf8.first", "unicode/utf8.acceptRanges", "unicode.White_Space", "chaperon/words.bases"], apart := false, laid := [("unicode/utf8.acceptRanges", laid_unicode_utf8_acceptRanges), ("unicode.White_Space", laid_unicode_White_Space), ("strings.asciiSpace", laid_strings_asciiSpace), ("chaperon/words.bases", laid_chaperon_words_bases), ("unicode/utf8.first", laid_unicode_utf8_first)] }
def SubtypeHasSaid : Prop := subtypeHasRow.holds Tryd.pinned (OpenSpec.ofChange subtypeHasSpec)

/-- ITS FALSE NEIGHBOUR: 'it returns false'. Refute it at one input. -/
def subtypeHasWrong : ChangeSpec := { name := "subtypeHas", fn := fun _ => fun
  | [d1, d2] => { results := [.lit (.bool false)], args := [d1, d2] }
  | _ => none }
def SubtypeHasWrongFalsely : Prop := subtypeHasRow.holds Tryd.pinned (OpenSpec.ofChange subtypeHasWrong)

/-- 'chaperonlaw07.ConsistKnown': WHATEVER THE INPUT: true; the input reads as it did. -/
def consistKnownSpec : ChangeSpec := { name := "consistKnown", fn := fun _ => fun
  | [] => { results := [.lit (.bool true)], args := [] }
  | _ => none }
def consistKnownRow : OpenClaim := { program := "ytbjomddjbfgclaadoor", sum := "8a5bf7fd1b3b3e2c447d22127f716fb31bee8fe315d4c64962612e8ed5f5fd1d", func := "chaperon/chaperonlaw07.ConsistKnown", spec := "consistKnown", unfollowed := true, recurses := true, named := ["strings.asciiSpace", "unicode/utf8.first", "unicode/utf8.acceptRanges", "unicode.White_Space", "chaperon/words.bases"], apart := false, laid := [("unicode/utf8.acceptRanges", laid_unicode_utf8_acceptRanges), ("unicode.White_Space", laid_unicode_White_Space), ("strings.asciiSpace", laid_strings_asciiSpace), ("chaperon/words.bases", laid_chaperon_words_bases), ("unicode/utf8.first", laid_unicode_utf8_first)] }
def ConsistKnownSaid : Prop := consistKnownRow.holds Tryd.pinned (OpenSpec.ofChange consistKnownSpec)

/-- ITS FALSE NEIGHBOUR: 'it returns false'. Refute it at one input. -/
def consistKnownWrong : ChangeSpec := { name := "consistKnown", fn := fun _ => fun
  | [] => { results := [.lit (.bool false)], args := [] }
  | _ => none }
def ConsistKnownWrongFalsely : Prop := consistKnownRow.holds Tryd.pinned (OpenSpec.ofChange consistKnownWrong)

/- THE SECOND FORM. 'bulk': how many values and letters a reading holds, each counted each time it is reached (what is shared counts as often as it is met; a slice's spare places count too). A statement '..UptoSaid' is the law's where the arguments, and the package variables that the reading takes, are together of bulk at most 1048576: NARROWER than '..Said'. Prove '..Said' where nothing that the law and all that it calls make is longer than what came in: it says more and counts as full. Else prove '..UptoSaid'. A law counts once. -/
mutual
def uptoBulk {H : Type} : DataW H → Nat
  | .lit (.string bytes) => bytes.length + 1
  | .lit _ => 1
  | .nil => 1
  | .ptr d => uptoBulk d + 1
  | .slice elems spare => uptoBulkAll elems + uptoBulkAll spare + 1
  | .agg parts => uptoBulkAll parts + 1
  | .iface _ d => uptoBulk d + 1
  | .map entries => uptoBulkEntries entries + 1
  | .held _ => 1
def uptoBulkAll {H : Type} : List (DataW H) → Nat
  | [] => 0
  | d :: r => uptoBulk d + uptoBulkAll r
def uptoBulkEntries {H : Type} : List (Lit × DataW H) → Nat
  | [] => 0
  | x :: r => uptoBulkEntry x + uptoBulkEntries r
def uptoBulkEntry {H : Type} : Lit × DataW H → Nat
  | (.string bytes, d) => bytes.length + uptoBulk d + 1
  | (_, d) => uptoBulk d + 1
 end
def uptoSmall : (H : Type) → List (DataW H) → Bool := fun _ ds => decide (uptoBulkAll ds ≤ 1048576)
def OpenSpec.upto (s : _root_.Go.ChangeSpec) : _root_.Go.OpenSpec := { _root_.Go.OpenSpec.ofChange s with cond := some uptoSmall }

/-- 'chaperonlaw05.TableKnown', WHERE WHAT IT READS IS OF BULK AT MOST 1048576: true; the input reads as it did. -/
def tableKnownUptoRow : OpenClaim := { program := "ytbjomddjbfgclaadoor", sum := "8a5bf7fd1b3b3e2c447d22127f716fb31bee8fe315d4c64962612e8ed5f5fd1d", func := "chaperon/chaperonlaw05.TableKnown", spec := "tableKnown", unfollowed := true, recurses := true, named := ["strings.asciiSpace", "unicode/utf8.first", "unicode/utf8.acceptRanges", "unicode.White_Space", "chaperon/words.bases"], apart := false, laid := [("unicode/utf8.acceptRanges", laid_unicode_utf8_acceptRanges), ("unicode.White_Space", laid_unicode_White_Space), ("strings.asciiSpace", laid_strings_asciiSpace), ("chaperon/words.bases", laid_chaperon_words_bases), ("unicode/utf8.first", laid_unicode_utf8_first)], narrowed := true }
def TableKnownUptoSaid : Prop := tableKnownUptoRow.holds Tryd.pinned (OpenSpec.upto tableKnownSpec)

/-- 'chaperonlaw05.TableOnce', WHERE WHAT IT READS IS OF BULK AT MOST 1048576: true; the input reads as it did. -/
def tableOnceUptoRow : OpenClaim := { program := "ytbjomddjbfgclaadoor", sum := "8a5bf7fd1b3b3e2c447d22127f716fb31bee8fe315d4c64962612e8ed5f5fd1d", func := "chaperon/chaperonlaw05.TableOnce", spec := "tableOnce", unfollowed := true, recurses := true, named := ["strings.asciiSpace", "unicode/utf8.first", "unicode/utf8.acceptRanges", "unicode.White_Space", "chaperon/words.bases"], apart := false, laid := [("unicode/utf8.acceptRanges", laid_unicode_utf8_acceptRanges), ("unicode.White_Space", laid_unicode_White_Space), ("strings.asciiSpace", laid_strings_asciiSpace), ("chaperon/words.bases", laid_chaperon_words_bases), ("unicode/utf8.first", laid_unicode_utf8_first)], narrowed := true }
def TableOnceUptoSaid : Prop := tableOnceUptoRow.holds Tryd.pinned (OpenSpec.upto tableOnceSpec)

/-- 'chaperonlaw05.TableAbove', WHERE WHAT IT READS IS OF BULK AT MOST 1048576: true; the input reads as it did. -/
def tableAboveUptoRow : OpenClaim := { program := "ytbjomddjbfgclaadoor", sum := "8a5bf7fd1b3b3e2c447d22127f716fb31bee8fe315d4c64962612e8ed5f5fd1d", func := "chaperon/chaperonlaw05.TableAbove", spec := "tableAbove", unfollowed := true, recurses := true, named := ["strings.asciiSpace", "unicode/utf8.first", "unicode/utf8.acceptRanges", "unicode.White_Space", "chaperon/words.bases"], apart := false, laid := [("unicode/utf8.acceptRanges", laid_unicode_utf8_acceptRanges), ("unicode.White_Space", laid_unicode_White_Space), ("strings.asciiSpace", laid_strings_asciiSpace), ("chaperon/words.bases", laid_chaperon_words_bases), ("unicode/utf8.first", laid_unicode_utf8_first)], narrowed := true }
def TableAboveUptoSaid : Prop := tableAboveUptoRow.holds Tryd.pinned (OpenSpec.upto tableAboveSpec)

/-- 'chaperonlaw06.SubtypeKnown', WHERE WHAT IT READS IS OF BULK AT MOST 1048576: true; the input reads as it did. -/
def subtypeKnownUptoRow : OpenClaim := { program := "ytbjomddjbfgclaadoor", sum := "8a5bf7fd1b3b3e2c447d22127f716fb31bee8fe315d4c64962612e8ed5f5fd1d", func := "chaperon/chaperonlaw06.SubtypeKnown", spec := "subtypeKnown", unfollowed := true, recurses := true, named := ["strings.asciiSpace", "unicode/utf8.first", "unicode/utf8.acceptRanges", "unicode.White_Space", "chaperon/words.bases"], apart := false, laid := [("unicode/utf8.acceptRanges", laid_unicode_utf8_acceptRanges), ("unicode.White_Space", laid_unicode_White_Space), ("strings.asciiSpace", laid_strings_asciiSpace), ("chaperon/words.bases", laid_chaperon_words_bases), ("unicode/utf8.first", laid_unicode_utf8_first)], narrowed := true }
def SubtypeKnownUptoSaid : Prop := subtypeKnownUptoRow.holds Tryd.pinned (OpenSpec.upto subtypeKnownSpec)

/-- 'chaperonlaw06.SubtypeOrder', WHERE WHAT IT READS IS OF BULK AT MOST 1048576: true; the input reads as it did. -/
def subtypeOrderUptoRow : OpenClaim := { program := "ytbjomddjbfgclaadoor", sum := "8a5bf7fd1b3b3e2c447d22127f716fb31bee8fe315d4c64962612e8ed5f5fd1d", func := "chaperon/chaperonlaw06.SubtypeOrder", spec := "subtypeOrder", unfollowed := true, recurses := true, named := ["strings.asciiSpace", "unicode/utf8.first", "unicode/utf8.acceptRanges", "unicode.White_Space", "chaperon/words.bases"], apart := false, laid := [("unicode/utf8.acceptRanges", laid_unicode_utf8_acceptRanges), ("unicode.White_Space", laid_unicode_White_Space), ("strings.asciiSpace", laid_strings_asciiSpace), ("chaperon/words.bases", laid_chaperon_words_bases), ("unicode/utf8.first", laid_unicode_utf8_first)], narrowed := true }
def SubtypeOrderUptoSaid : Prop := subtypeOrderUptoRow.holds Tryd.pinned (OpenSpec.upto subtypeOrderSpec)

/-- 'chaperonlaw06.SubtypeJoin', WHERE WHAT IT READS IS OF BULK AT MOST 1048576: true; the input reads as it did. -/
def subtypeJoinUptoRow : OpenClaim := { program := "ytbjomddjbfgclaadoor", sum := "8a5bf7fd1b3b3e2c447d22127f716fb31bee8fe315d4c64962612e8ed5f5fd1d", func := "chaperon/chaperonlaw06.SubtypeJoin", spec := "subtypeJoin", unfollowed := true, recurses := true, named := ["strings.asciiSpace", "unicode/utf8.first", "unicode/utf8.acceptRanges", "unicode.White_Space", "chaperon/words.bases"], apart := false, laid := [("unicode/utf8.acceptRanges", laid_unicode_utf8_acceptRanges), ("unicode.White_Space", laid_unicode_White_Space), ("strings.asciiSpace", laid_strings_asciiSpace), ("chaperon/words.bases", laid_chaperon_words_bases), ("unicode/utf8.first", laid_unicode_utf8_first)], narrowed := true }
def SubtypeJoinUptoSaid : Prop := subtypeJoinUptoRow.holds Tryd.pinned (OpenSpec.upto subtypeJoinSpec)

/-- 'chaperonlaw06.SubtypeHas', WHERE WHAT IT READS IS OF BULK AT MOST 1048576: true; the input reads as it did. -/
def subtypeHasUptoRow : OpenClaim := { program := "ytbjomddjbfgclaadoor", sum := "8a5bf7fd1b3b3e2c447d22127f716fb31bee8fe315d4c64962612e8ed5f5fd1d", func := "chaperon/chaperonlaw06.SubtypeHas", spec := "subtypeHas", unfollowed := true, recurses := true, named := ["strings.asciiSpace", "unicode/utf8.first", "unicode/utf8.acceptRanges", "unicode.White_Space", "chaperon/words.bases"], apart := false, laid := [("unicode/utf8.acceptRanges", laid_unicode_utf8_acceptRanges), ("unicode.White_Space", laid_unicode_White_Space), ("strings.asciiSpace", laid_strings_asciiSpace), ("chaperon/words.bases", laid_chaperon_words_bases), ("unicode/utf8.first", laid_unicode_utf8_first)], narrowed := true }
def SubtypeHasUptoSaid : Prop := subtypeHasUptoRow.holds Tryd.pinned (OpenSpec.upto subtypeHasSpec)

/-- 'chaperonlaw07.ConsistKnown', WHERE WHAT IT READS IS OF BULK AT MOST 1048576: true; the input reads as it did. -/
def consistKnownUptoRow : OpenClaim := { program := "ytbjomddjbfgclaadoor", sum := "8a5bf7fd1b3b3e2c447d22127f716fb31bee8fe315d4c64962612e8ed5f5fd1d", func := "chaperon/chaperonlaw07.ConsistKnown", spec := "consistKnown", unfollowed := true, recurses := true, named := ["strings.asciiSpace", "unicode/utf8.first", "unicode/utf8.acceptRanges", "unicode.White_Space", "chaperon/words.bases"], apart := false, laid := [("unicode/utf8.acceptRanges", laid_unicode_utf8_acceptRanges), ("unicode.White_Space", laid_unicode_White_Space), ("strings.asciiSpace", laid_strings_asciiSpace), ("chaperon/words.bases", laid_chaperon_words_bases), ("unicode/utf8.first", laid_unicode_utf8_first)], narrowed := true }
def ConsistKnownUptoSaid : Prop := consistKnownUptoRow.holds Tryd.pinned (OpenSpec.upto consistKnownSpec)

end Rows
end Go.Proofs.YtbjomddjbfgclaaDoor
