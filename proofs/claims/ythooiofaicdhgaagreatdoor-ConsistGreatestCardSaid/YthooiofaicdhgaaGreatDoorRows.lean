/-
  NARROWER THAN 'FOR EVERY INPUT', by the rows' own cells (each row's printed sentence says how): SubtypeTells: laid · ConsistTells: laid · ConsistGreatest: laid · ConsistLooser: laid · PreciseTells: laid · PreciseGreatest: laid · SitesChecks: laid · SitesTells: laid · SitesKnown: laid · SitesMay: laid · SitesCasts: laid · SitesMore: laid.
  DERIVED. THE GIVEN ROWS OF THIS SEAT. 12 by the template 'for every input the law returns true; each argument reads behind the call as it read before'; 0 by the template 'total and deterministic' (their statements: YthooiofaicdhgaaGreatDoorTotals.lean).
  GIVEN WITH THE SEED: the statements are not yours to turn. If you find one false, say at which input.
  Laid BY PROGRAM, IN A SANDBOX (cutbox-rows.mjs): the forced cells as the released guide's own fill.sh prints them over the translation 18691d105e337edd… (all of the seat's roots in one cut). By AI agents, Wed Nov 11 2026. No macro, syntax, notation, axiom, sorry.
-/
import Derived.Test.YthooiofaicdhgaaGreatDoorChecked
import GoSem.PinnedTables
import GoSem.Claim
import GoSem.ClaimJoined
import GoSem.ClaimMapViews
import Derived.JoinedTies
import Derived.KernelRfl
namespace Go.Proofs.YthooiofaicdhgaaGreatDoor
/- THE CELL 'sum', in the pinned program and in every row, IS THE sha256 OF THE DUMP (.gsa) THAT YthooiofaicdhgaaGreatDoorProg.lean LOADS. Nothing in Lean hashes anything: it is a label: what it is worth is what the hold of that sum in a sandbox is worth. -/
noncomputable def Tryz.pinned : Pinned := { name := "ythooiofaicdhgaagreatdoor", sum := "18691d105e337edd636d73bf3b7acb45e9af76fab2fa229b6ef9d67f4247ebaf", checked := Tryz.checked }
namespace Rows
def none {H : Type} : Left H := { results := [], args := [] }

/- WHAT THE LISTED PACKAGE-LEVEL VARIABLES READ AS WHEN THE CALL BEGINS. Each datum BY PROGRAM (the guide's laid-datum.mjs) off the statement by which the dump's own 'gosem.cut.vars' lays the variable. In a bare row this is a premise. The card (YthooiofaicdhgaaGreatDoorCards.lean) ties it to the program's text. -/
def laid_unicode_utf8_acceptRanges {H : Type} : DataW H := .agg [.agg [.lit (.int .u8 128), .lit (.int .u8 191)], .agg [.lit (.int .u8 160), .lit (.int .u8 191)], .agg [.lit (.int .u8 128), .lit (.int .u8 159)], .agg [.lit (.int .u8 144), .lit (.int .u8 191)], .agg [.lit (.int .u8 128), .lit (.int .u8 143)], .agg [.lit (.int .u8 0), .lit (.int .u8 0)], .agg [.lit (.int .u8 0), .lit (.int .u8 0)], .agg [.lit (.int .u8 0), .lit (.int .u8 0)], .agg [.lit (.int .u8 0), .lit (.int .u8 0)], .agg [.lit (.int .u8 0), .lit (.int .u8 0)], .agg [.lit (.int .u8 0), .lit (.int .u8 0)], .agg [.lit (.int .u8 0), .lit (.int .u8 0)], .agg [.lit (.int .u8 0), .lit (.int .u8 0)], .agg [.lit (.int .u8 0), .lit (.int .u8 0)], .agg [.lit (.int .u8 0), .lit (.int .u8 0)], .agg [.lit (.int .u8 0), .lit (.int .u8 0)]]
def laid_unicode_White_Space {H : Type} : DataW H := .ptr (.agg [.slice [.agg [.lit (.int .u16 9), .lit (.int .u16 13), .lit (.int .u16 1)], .agg [.lit (.int .u16 32), .lit (.int .u16 133), .lit (.int .u16 101)], .agg [.lit (.int .u16 160), .lit (.int .u16 5760), .lit (.int .u16 5600)], .agg [.lit (.int .u16 8192), .lit (.int .u16 8202), .lit (.int .u16 1)], .agg [.lit (.int .u16 8232), .lit (.int .u16 8233), .lit (.int .u16 1)], .agg [.lit (.int .u16 8239), .lit (.int .u16 8287), .lit (.int .u16 48)], .agg [.lit (.int .u16 12288), .lit (.int .u16 12288), .lit (.int .u16 1)]] [], .nil, .lit (.int .i64 2)])
def laid_strings_asciiSpace {H : Type} : DataW H := .agg [.lit (.int .u8 0), .lit (.int .u8 0), .lit (.int .u8 0), .lit (.int .u8 0), .lit (.int .u8 0), .lit (.int .u8 0), .lit (.int .u8 0), .lit (.int .u8 0), .lit (.int .u8 0), .lit (.int .u8 1), .lit (.int .u8 1), .lit (.int .u8 1), .lit (.int .u8 1), .lit (.int .u8 1), .lit (.int .u8 0), .lit (.int .u8 0), .lit (.int .u8 0), .lit (.int .u8 0), .lit (.int .u8 0), .lit (.int .u8 0), .lit (.int .u8 0), .lit (.int .u8 0), .lit (.int .u8 0), .lit (.int .u8 0), .lit (.int .u8 0), .lit (.int .u8 0), .lit (.int .u8 0), .lit (.int .u8 0), .lit (.int .u8 0), .lit (.int .u8 0), .lit (.int .u8 0), .lit (.int .u8 0), .lit (.int .u8 1), .lit (.int .u8 0), .lit (.int .u8 0), .lit (.int .u8 0), .lit (.int .u8 0), .lit (.int .u8 0), .lit (.int .u8 0), .lit (.int .u8 0), .lit (.int .u8 0), .lit (.int .u8 0), .lit (.int .u8 0), .lit (.int .u8 0), .lit (.int .u8 0), .lit (.int .u8 0), .lit (.int .u8 0), .lit (.int .u8 0), .lit (.int .u8 0), .lit (.int .u8 0), .lit (.int .u8 0), .lit (.int .u8 0), .lit (.int .u8 0), .lit (.int .u8 0), .lit (.int .u8 0), .lit (.int .u8 0), .lit (.int .u8 0), .lit (.int .u8 0), .lit (.int .u8 0), .lit (.int .u8 0), .lit (.int .u8 0), .lit (.int .u8 0), .lit (.int .u8 0), .lit (.int .u8 0), .lit (.int .u8 0), .lit (.int .u8 0), .lit (.int .u8 0), .lit (.int .u8 0), .lit (.int .u8 0), .lit (.int .u8 0), .lit (.int .u8 0), .lit (.int .u8 0), .lit (.int .u8 0), .lit (.int .u8 0), .lit (.int .u8 0), .lit (.int .u8 0), .lit (.int .u8 0), .lit (.int .u8 0), .lit (.int .u8 0), .lit (.int .u8 0), .lit (.int .u8 0), .lit (.int .u8 0), .lit (.int .u8 0), .lit (.int .u8 0), .lit (.int .u8 0), .lit (.int .u8 0), .lit (.int .u8 0), .lit (.int .u8 0), .lit (.int .u8 0), .lit (.int .u8 0), .lit (.int .u8 0), .lit (.int .u8 0), .lit (.int .u8 0), .lit (.int .u8 0), .lit (.int .u8 0), .lit (.int .u8 0), .lit (.int .u8 0), .lit (.int .u8 0), .lit (.int .u8 0), .lit (.int .u8 0), .lit (.int .u8 0), .lit (.int .u8 0), .lit (.int .u8 0), .lit (.int .u8 0), .lit (.int .u8 0), .lit (.int .u8 0), .lit (.int .u8 0), .lit (.int .u8 0), .lit (.int .u8 0), .lit (.int .u8 0), .lit (.int .u8 0), .lit (.int .u8 0), .lit (.int .u8 0), .lit (.int .u8 0), .lit (.int .u8 0), .lit (.int .u8 0), .lit (.int .u8 0), .lit (.int .u8 0), .lit (.int .u8 0), .lit (.int .u8 0), .lit (.int .u8 0), .lit (.int .u8 0), .lit (.int .u8 0), .lit (.int .u8 0), .lit (.int .u8 0), .lit (.int .u8 0), .lit (.int .u8 0), .lit (.int .u8 0), .lit (.int .u8 0), .lit (.int .u8 0), .lit (.int .u8 0), .lit (.int .u8 0), .lit (.int .u8 0), .lit (.int .u8 0), .lit (.int .u8 0), .lit (.int .u8 0), .lit (.int .u8 0), .lit (.int .u8 0), .lit (.int .u8 0), .lit (.int .u8 0), .lit (.int .u8 0), .lit (.int .u8 0), .lit (.int .u8 0), .lit (.int .u8 0), .lit (.int .u8 0), .lit (.int .u8 0), .lit (.int .u8 0), .lit (.int .u8 0), .lit (.int .u8 0), .lit (.int .u8 0), .lit (.int .u8 0), .lit (.int .u8 0), .lit (.int .u8 0), .lit (.int .u8 0), .lit (.int .u8 0), .lit (.int .u8 0), .lit (.int .u8 0), .lit (.int .u8 0), .lit (.int .u8 0), .lit (.int .u8 0), .lit (.int .u8 0), .lit (.int .u8 0), .lit (.int .u8 0), .lit (.int .u8 0), .lit (.int .u8 0), .lit (.int .u8 0), .lit (.int .u8 0), .lit (.int .u8 0), .lit (.int .u8 0), .lit (.int .u8 0), .lit (.int .u8 0), .lit (.int .u8 0), .lit (.int .u8 0), .lit (.int .u8 0), .lit (.int .u8 0), .lit (.int .u8 0), .lit (.int .u8 0), .lit (.int .u8 0), .lit (.int .u8 0), .lit (.int .u8 0), .lit (.int .u8 0), .lit (.int .u8 0), .lit (.int .u8 0), .lit (.int .u8 0), .lit (.int .u8 0), .lit (.int .u8 0), .lit (.int .u8 0), .lit (.int .u8 0), .lit (.int .u8 0), .lit (.int .u8 0), .lit (.int .u8 0), .lit (.int .u8 0), .lit (.int .u8 0), .lit (.int .u8 0), .lit (.int .u8 0), .lit (.int .u8 0), .lit (.int .u8 0), .lit (.int .u8 0), .lit (.int .u8 0), .lit (.int .u8 0), .lit (.int .u8 0), .lit (.int .u8 0), .lit (.int .u8 0), .lit (.int .u8 0), .lit (.int .u8 0), .lit (.int .u8 0), .lit (.int .u8 0), .lit (.int .u8 0), .lit (.int .u8 0), .lit (.int .u8 0), .lit (.int .u8 0), .lit (.int .u8 0), .lit (.int .u8 0), .lit (.int .u8 0), .lit (.int .u8 0), .lit (.int .u8 0), .lit (.int .u8 0), .lit (.int .u8 0), .lit (.int .u8 0), .lit (.int .u8 0), .lit (.int .u8 0), .lit (.int .u8 0), .lit (.int .u8 0), .lit (.int .u8 0), .lit (.int .u8 0), .lit (.int .u8 0), .lit (.int .u8 0), .lit (.int .u8 0), .lit (.int .u8 0), .lit (.int .u8 0), .lit (.int .u8 0), .lit (.int .u8 0), .lit (.int .u8 0), .lit (.int .u8 0), .lit (.int .u8 0), .lit (.int .u8 0), .lit (.int .u8 0), .lit (.int .u8 0), .lit (.int .u8 0), .lit (.int .u8 0), .lit (.int .u8 0), .lit (.int .u8 0), .lit (.int .u8 0), .lit (.int .u8 0), .lit (.int .u8 0), .lit (.int .u8 0), .lit (.int .u8 0), .lit (.int .u8 0), .lit (.int .u8 0), .lit (.int .u8 0), .lit (.int .u8 0), .lit (.int .u8 0), .lit (.int .u8 0), .lit (.int .u8 0), .lit (.int .u8 0), .lit (.int .u8 0)]
def laid_chaperon_words_bases {H : Type} : DataW H := .agg [.agg [.lit (.string [105, 110, 116]), .lit (.int .i64 1)], .agg [.lit (.string [114, 101, 97, 108]), .lit (.int .i64 2)], .agg [.lit (.string [98, 111, 111, 108]), .lit (.int .i64 3)], .agg [.lit (.string [115, 116, 114]), .lit (.int .i64 4)], .agg [.lit (.string [117, 110, 105, 116]), .lit (.int .i64 5)]]
/-- One of Go's own tables, pinned by name: the form's constant. -/
def laid_unicode_utf8_first : DataW Unit := Go.Pinned.utf8First
def laid_math_bits_deBruijn32tab {H : Type} : DataW H := .agg [.lit (.int .u8 0), .lit (.int .u8 1), .lit (.int .u8 28), .lit (.int .u8 2), .lit (.int .u8 29), .lit (.int .u8 14), .lit (.int .u8 24), .lit (.int .u8 3), .lit (.int .u8 30), .lit (.int .u8 22), .lit (.int .u8 20), .lit (.int .u8 15), .lit (.int .u8 25), .lit (.int .u8 17), .lit (.int .u8 4), .lit (.int .u8 8), .lit (.int .u8 31), .lit (.int .u8 27), .lit (.int .u8 13), .lit (.int .u8 23), .lit (.int .u8 21), .lit (.int .u8 19), .lit (.int .u8 16), .lit (.int .u8 7), .lit (.int .u8 26), .lit (.int .u8 12), .lit (.int .u8 18), .lit (.int .u8 6), .lit (.int .u8 11), .lit (.int .u8 5), .lit (.int .u8 10), .lit (.int .u8 9)]
def laid_math_bits_deBruijn64tab {H : Type} : DataW H := .agg [.lit (.int .u8 0), .lit (.int .u8 1), .lit (.int .u8 56), .lit (.int .u8 2), .lit (.int .u8 57), .lit (.int .u8 49), .lit (.int .u8 28), .lit (.int .u8 3), .lit (.int .u8 61), .lit (.int .u8 58), .lit (.int .u8 42), .lit (.int .u8 50), .lit (.int .u8 38), .lit (.int .u8 29), .lit (.int .u8 17), .lit (.int .u8 4), .lit (.int .u8 62), .lit (.int .u8 47), .lit (.int .u8 59), .lit (.int .u8 36), .lit (.int .u8 45), .lit (.int .u8 43), .lit (.int .u8 51), .lit (.int .u8 22), .lit (.int .u8 53), .lit (.int .u8 39), .lit (.int .u8 33), .lit (.int .u8 30), .lit (.int .u8 24), .lit (.int .u8 18), .lit (.int .u8 12), .lit (.int .u8 5), .lit (.int .u8 63), .lit (.int .u8 55), .lit (.int .u8 48), .lit (.int .u8 27), .lit (.int .u8 60), .lit (.int .u8 41), .lit (.int .u8 37), .lit (.int .u8 16), .lit (.int .u8 46), .lit (.int .u8 35), .lit (.int .u8 44), .lit (.int .u8 21), .lit (.int .u8 52), .lit (.int .u8 32), .lit (.int .u8 23), .lit (.int .u8 11), .lit (.int .u8 54), .lit (.int .u8 26), .lit (.int .u8 40), .lit (.int .u8 15), .lit (.int .u8 34), .lit (.int .u8 20), .lit (.int .u8 31), .lit (.int .u8 10), .lit (.int .u8 25), .lit (.int .u8 14), .lit (.int .u8 19), .lit (.int .u8 9), .lit (.int .u8 13), .lit (.int .u8 8), .lit (.int .u8 7), .lit (.int .u8 6)]
def laid_internal_strconv_uint64pow10 {H : Type} : DataW H := .agg [.lit (.int .u64 1), .lit (.int .u64 10), .lit (.int .u64 100), .lit (.int .u64 1000), .lit (.int .u64 10000), .lit (.int .u64 100000), .lit (.int .u64 1000000), .lit (.int .u64 10000000), .lit (.int .u64 100000000), .lit (.int .u64 1000000000), .lit (.int .u64 10000000000), .lit (.int .u64 100000000000), .lit (.int .u64 1000000000000), .lit (.int .u64 10000000000000), .lit (.int .u64 100000000000000), .lit (.int .u64 1000000000000000), .lit (.int .u64 10000000000000000), .lit (.int .u64 100000000000000000), .lit (.int .u64 1000000000000000000), .lit (.int .u64 10000000000000000000)]
def laid_chaperon_sites_kindWords {H : Type} : DataW H := .agg [.lit (.string [63]), .lit (.string [99, 97, 115, 116]), .lit (.string [103, 101, 116]), .lit (.string [112, 117, 116]), .lit (.string [99, 97, 108, 108]), .lit (.string [111, 112])]

/-- 'chaperonlaw06.SubtypeTells': WHATEVER THE INPUT: true; the input reads as it did. -/
def subtypeTellsSpec : ChangeSpec := { name := "subtypeTells", fn := fun _ => fun
  | [d1, d2, d3] => { results := [.lit (.bool true)], args := [d1, d2, d3] }
  | _ => none }
def subtypeTellsRow : OpenClaim := { program := "ythooiofaicdhgaagreatdoor", sum := "18691d105e337edd636d73bf3b7acb45e9af76fab2fa229b6ef9d67f4247ebaf", func := "chaperon/chaperonlaw06.SubtypeTells", spec := "subtypeTells", unfollowed := true, recurses := true, named := ["strings.asciiSpace", "unicode/utf8.first", "unicode/utf8.acceptRanges", "unicode.White_Space", "chaperon/words.bases"], plainKeys := false, apart := false, laid := [("unicode/utf8.acceptRanges", laid_unicode_utf8_acceptRanges), ("unicode.White_Space", laid_unicode_White_Space), ("strings.asciiSpace", laid_strings_asciiSpace), ("chaperon/words.bases", laid_chaperon_words_bases), ("unicode/utf8.first", laid_unicode_utf8_first)] }
def SubtypeTellsSaid : Prop := subtypeTellsRow.holds Tryz.pinned (OpenSpec.ofChange subtypeTellsSpec)

/-- ITS FALSE NEIGHBOUR: 'it returns false'. Refute it at one input. -/
def subtypeTellsWrong : ChangeSpec := { name := "subtypeTells", fn := fun _ => fun
  | [d1, d2, d3] => { results := [.lit (.bool false)], args := [d1, d2, d3] }
  | _ => none }
def SubtypeTellsWrongFalsely : Prop := subtypeTellsRow.holds Tryz.pinned (OpenSpec.ofChange subtypeTellsWrong)

/-- 'chaperonlaw07.ConsistTells': WHATEVER THE INPUT: true; the input reads as it did. -/
def consistTellsSpec : ChangeSpec := { name := "consistTells", fn := fun _ => fun
  | [d1, d2, d3] => { results := [.lit (.bool true)], args := [d1, d2, d3] }
  | _ => none }
def consistTellsRow : OpenClaim := { program := "ythooiofaicdhgaagreatdoor", sum := "18691d105e337edd636d73bf3b7acb45e9af76fab2fa229b6ef9d67f4247ebaf", func := "chaperon/chaperonlaw07.ConsistTells", spec := "consistTells", unfollowed := true, recurses := true, named := ["strings.asciiSpace", "unicode/utf8.first", "unicode/utf8.acceptRanges", "unicode.White_Space", "chaperon/words.bases"], plainKeys := false, apart := false, laid := [("unicode/utf8.acceptRanges", laid_unicode_utf8_acceptRanges), ("unicode.White_Space", laid_unicode_White_Space), ("strings.asciiSpace", laid_strings_asciiSpace), ("chaperon/words.bases", laid_chaperon_words_bases), ("unicode/utf8.first", laid_unicode_utf8_first)] }
def ConsistTellsSaid : Prop := consistTellsRow.holds Tryz.pinned (OpenSpec.ofChange consistTellsSpec)

/-- ITS FALSE NEIGHBOUR: 'it returns false'. Refute it at one input. -/
def consistTellsWrong : ChangeSpec := { name := "consistTells", fn := fun _ => fun
  | [d1, d2, d3] => { results := [.lit (.bool false)], args := [d1, d2, d3] }
  | _ => none }
def ConsistTellsWrongFalsely : Prop := consistTellsRow.holds Tryz.pinned (OpenSpec.ofChange consistTellsWrong)

/-- 'chaperonlaw07.ConsistGreatest': WHATEVER THE INPUT: true; the input reads as it did. -/
def consistGreatestSpec : ChangeSpec := { name := "consistGreatest", fn := fun _ => fun
  | [d1, d2] => { results := [.lit (.bool true)], args := [d1, d2] }
  | _ => none }
def consistGreatestRow : OpenClaim := { program := "ythooiofaicdhgaagreatdoor", sum := "18691d105e337edd636d73bf3b7acb45e9af76fab2fa229b6ef9d67f4247ebaf", func := "chaperon/chaperonlaw07.ConsistGreatest", spec := "consistGreatest", unfollowed := true, recurses := true, named := ["strings.asciiSpace", "unicode/utf8.first", "unicode/utf8.acceptRanges", "unicode.White_Space", "chaperon/words.bases"], plainKeys := false, apart := false, laid := [("unicode/utf8.acceptRanges", laid_unicode_utf8_acceptRanges), ("unicode.White_Space", laid_unicode_White_Space), ("strings.asciiSpace", laid_strings_asciiSpace), ("chaperon/words.bases", laid_chaperon_words_bases), ("unicode/utf8.first", laid_unicode_utf8_first)] }
def ConsistGreatestSaid : Prop := consistGreatestRow.holds Tryz.pinned (OpenSpec.ofChange consistGreatestSpec)

/-- ITS FALSE NEIGHBOUR: 'it returns false'. Refute it at one input. -/
def consistGreatestWrong : ChangeSpec := { name := "consistGreatest", fn := fun _ => fun
  | [d1, d2] => { results := [.lit (.bool false)], args := [d1, d2] }
  | _ => none }
def ConsistGreatestWrongFalsely : Prop := consistGreatestRow.holds Tryz.pinned (OpenSpec.ofChange consistGreatestWrong)

/-- 'chaperonlaw07.ConsistLooser': WHATEVER THE INPUT: true; the input reads as it did. -/
def consistLooserSpec : ChangeSpec := { name := "consistLooser", fn := fun _ => fun
  | [d1, d2, d3, d4] => { results := [.lit (.bool true)], args := [d1, d2, d3, d4] }
  | _ => none }
def consistLooserRow : OpenClaim := { program := "ythooiofaicdhgaagreatdoor", sum := "18691d105e337edd636d73bf3b7acb45e9af76fab2fa229b6ef9d67f4247ebaf", func := "chaperon/chaperonlaw07.ConsistLooser", spec := "consistLooser", unfollowed := true, recurses := true, named := ["strings.asciiSpace", "unicode/utf8.first", "unicode/utf8.acceptRanges", "unicode.White_Space", "chaperon/words.bases"], plainKeys := false, apart := false, laid := [("unicode/utf8.acceptRanges", laid_unicode_utf8_acceptRanges), ("unicode.White_Space", laid_unicode_White_Space), ("strings.asciiSpace", laid_strings_asciiSpace), ("chaperon/words.bases", laid_chaperon_words_bases), ("unicode/utf8.first", laid_unicode_utf8_first)] }
def ConsistLooserSaid : Prop := consistLooserRow.holds Tryz.pinned (OpenSpec.ofChange consistLooserSpec)

/-- ITS FALSE NEIGHBOUR: 'it returns false'. Refute it at one input. -/
def consistLooserWrong : ChangeSpec := { name := "consistLooser", fn := fun _ => fun
  | [d1, d2, d3, d4] => { results := [.lit (.bool false)], args := [d1, d2, d3, d4] }
  | _ => none }
def ConsistLooserWrongFalsely : Prop := consistLooserRow.holds Tryz.pinned (OpenSpec.ofChange consistLooserWrong)

/-- 'chaperonlaw08.PreciseTells': WHATEVER THE INPUT: true; the input reads as it did. -/
def preciseTellsSpec : ChangeSpec := { name := "preciseTells", fn := fun _ => fun
  | [d1, d2, d3] => { results := [.lit (.bool true)], args := [d1, d2, d3] }
  | _ => none }
def preciseTellsRow : OpenClaim := { program := "ythooiofaicdhgaagreatdoor", sum := "18691d105e337edd636d73bf3b7acb45e9af76fab2fa229b6ef9d67f4247ebaf", func := "chaperon/chaperonlaw08.PreciseTells", spec := "preciseTells", unfollowed := true, recurses := true, named := ["strings.asciiSpace", "unicode/utf8.first", "unicode/utf8.acceptRanges", "unicode.White_Space", "chaperon/words.bases"], plainKeys := false, apart := false, laid := [("unicode/utf8.acceptRanges", laid_unicode_utf8_acceptRanges), ("unicode.White_Space", laid_unicode_White_Space), ("strings.asciiSpace", laid_strings_asciiSpace), ("chaperon/words.bases", laid_chaperon_words_bases), ("unicode/utf8.first", laid_unicode_utf8_first)] }
def PreciseTellsSaid : Prop := preciseTellsRow.holds Tryz.pinned (OpenSpec.ofChange preciseTellsSpec)

/-- ITS FALSE NEIGHBOUR: 'it returns false'. Refute it at one input. -/
def preciseTellsWrong : ChangeSpec := { name := "preciseTells", fn := fun _ => fun
  | [d1, d2, d3] => { results := [.lit (.bool false)], args := [d1, d2, d3] }
  | _ => none }
def PreciseTellsWrongFalsely : Prop := preciseTellsRow.holds Tryz.pinned (OpenSpec.ofChange preciseTellsWrong)

/-- 'chaperonlaw08.PreciseGreatest': WHATEVER THE INPUT: true; the input reads as it did. -/
def preciseGreatestSpec : ChangeSpec := { name := "preciseGreatest", fn := fun _ => fun
  | [d1, d2, d3] => { results := [.lit (.bool true)], args := [d1, d2, d3] }
  | _ => none }
def preciseGreatestRow : OpenClaim := { program := "ythooiofaicdhgaagreatdoor", sum := "18691d105e337edd636d73bf3b7acb45e9af76fab2fa229b6ef9d67f4247ebaf", func := "chaperon/chaperonlaw08.PreciseGreatest", spec := "preciseGreatest", unfollowed := true, recurses := true, named := ["strings.asciiSpace", "unicode/utf8.first", "unicode/utf8.acceptRanges", "unicode.White_Space", "chaperon/words.bases"], plainKeys := false, apart := false, laid := [("unicode/utf8.acceptRanges", laid_unicode_utf8_acceptRanges), ("unicode.White_Space", laid_unicode_White_Space), ("strings.asciiSpace", laid_strings_asciiSpace), ("chaperon/words.bases", laid_chaperon_words_bases), ("unicode/utf8.first", laid_unicode_utf8_first)] }
def PreciseGreatestSaid : Prop := preciseGreatestRow.holds Tryz.pinned (OpenSpec.ofChange preciseGreatestSpec)

/-- ITS FALSE NEIGHBOUR: 'it returns false'. Refute it at one input. -/
def preciseGreatestWrong : ChangeSpec := { name := "preciseGreatest", fn := fun _ => fun
  | [d1, d2, d3] => { results := [.lit (.bool false)], args := [d1, d2, d3] }
  | _ => none }
def PreciseGreatestWrongFalsely : Prop := preciseGreatestRow.holds Tryz.pinned (OpenSpec.ofChange preciseGreatestWrong)

/-- 'chaperonlaw09.SitesChecks': WHATEVER THE INPUT: true; the input reads as it did. -/
def sitesChecksSpec : ChangeSpec := { name := "sitesChecks", fn := fun _ => fun
  | [d1, d2] => { results := [.lit (.bool true)], args := [d1, d2] }
  | _ => none }
def sitesChecksRow : OpenClaim := { program := "ythooiofaicdhgaagreatdoor", sum := "18691d105e337edd636d73bf3b7acb45e9af76fab2fa229b6ef9d67f4247ebaf", func := "chaperon/chaperonlaw09.SitesChecks", spec := "sitesChecks", unfollowed := true, recurses := true, named := ["strings.asciiSpace", "unicode/utf8.first", "unicode/utf8.acceptRanges", "unicode.White_Space", "chaperon/words.bases"], plainKeys := false, apart := false, laid := [("unicode/utf8.acceptRanges", laid_unicode_utf8_acceptRanges), ("unicode.White_Space", laid_unicode_White_Space), ("strings.asciiSpace", laid_strings_asciiSpace), ("chaperon/words.bases", laid_chaperon_words_bases), ("unicode/utf8.first", laid_unicode_utf8_first)] }
def SitesChecksSaid : Prop := sitesChecksRow.holds Tryz.pinned (OpenSpec.ofChange sitesChecksSpec)

/-- ITS FALSE NEIGHBOUR: 'it returns false'. Refute it at one input. -/
def sitesChecksWrong : ChangeSpec := { name := "sitesChecks", fn := fun _ => fun
  | [d1, d2] => { results := [.lit (.bool false)], args := [d1, d2] }
  | _ => none }
def SitesChecksWrongFalsely : Prop := sitesChecksRow.holds Tryz.pinned (OpenSpec.ofChange sitesChecksWrong)

/-- 'chaperonlaw09.SitesTells': WHATEVER THE INPUT: true; the input reads as it did. -/
def sitesTellsSpec : ChangeSpec := { name := "sitesTells", fn := fun _ => fun
  | [d1, d2, d3] => { results := [.lit (.bool true)], args := [d1, d2, d3] }
  | _ => none }
def sitesTellsRow : OpenClaim := { program := "ythooiofaicdhgaagreatdoor", sum := "18691d105e337edd636d73bf3b7acb45e9af76fab2fa229b6ef9d67f4247ebaf", func := "chaperon/chaperonlaw09.SitesTells", spec := "sitesTells", inPlace := ["internal/abi.NoEscape", "internal/bytealg.MakeNoZero"], unfollowed := true, recurses := true, named := ["strings.asciiSpace", "unicode/utf8.first", "unicode/utf8.acceptRanges", "unicode.White_Space", "chaperon/words.bases", "chaperon/sites.kindWords", "internal/strconv.uint64pow10", "math/bits.deBruijn32tab", "math/bits.deBruijn64tab"], plainKeys := false, apart := false, laid := [("math/bits.deBruijn32tab", laid_math_bits_deBruijn32tab), ("math/bits.deBruijn64tab", laid_math_bits_deBruijn64tab), ("internal/strconv.uint64pow10", laid_internal_strconv_uint64pow10), ("unicode/utf8.acceptRanges", laid_unicode_utf8_acceptRanges), ("unicode.White_Space", laid_unicode_White_Space), ("strings.asciiSpace", laid_strings_asciiSpace), ("chaperon/words.bases", laid_chaperon_words_bases), ("chaperon/sites.kindWords", laid_chaperon_sites_kindWords), ("unicode/utf8.first", laid_unicode_utf8_first)] }
def SitesTellsSaid : Prop := sitesTellsRow.holds Tryz.pinned (OpenSpec.ofChange sitesTellsSpec)

/-- ITS FALSE NEIGHBOUR: 'it returns false'. Refute it at one input. -/
def sitesTellsWrong : ChangeSpec := { name := "sitesTells", fn := fun _ => fun
  | [d1, d2, d3] => { results := [.lit (.bool false)], args := [d1, d2, d3] }
  | _ => none }
def SitesTellsWrongFalsely : Prop := sitesTellsRow.holds Tryz.pinned (OpenSpec.ofChange sitesTellsWrong)

/-- 'chaperonlaw09.SitesKnown': WHATEVER THE INPUT: true; the input reads as it did. -/
def sitesKnownSpec : ChangeSpec := { name := "sitesKnown", fn := fun _ => fun
  | [] => { results := [.lit (.bool true)], args := [] }
  | _ => none }
def sitesKnownRow : OpenClaim := { program := "ythooiofaicdhgaagreatdoor", sum := "18691d105e337edd636d73bf3b7acb45e9af76fab2fa229b6ef9d67f4247ebaf", func := "chaperon/chaperonlaw09.SitesKnown", spec := "sitesKnown", inPlace := ["internal/abi.NoEscape", "internal/bytealg.MakeNoZero"], unfollowed := true, recurses := true, named := ["strings.asciiSpace", "unicode/utf8.first", "unicode/utf8.acceptRanges", "unicode.White_Space", "chaperon/words.bases", "chaperon/sites.kindWords", "internal/strconv.uint64pow10", "math/bits.deBruijn32tab", "math/bits.deBruijn64tab"], plainKeys := false, apart := false, laid := [("math/bits.deBruijn32tab", laid_math_bits_deBruijn32tab), ("math/bits.deBruijn64tab", laid_math_bits_deBruijn64tab), ("internal/strconv.uint64pow10", laid_internal_strconv_uint64pow10), ("unicode/utf8.acceptRanges", laid_unicode_utf8_acceptRanges), ("unicode.White_Space", laid_unicode_White_Space), ("strings.asciiSpace", laid_strings_asciiSpace), ("chaperon/words.bases", laid_chaperon_words_bases), ("chaperon/sites.kindWords", laid_chaperon_sites_kindWords), ("unicode/utf8.first", laid_unicode_utf8_first)] }
def SitesKnownSaid : Prop := sitesKnownRow.holds Tryz.pinned (OpenSpec.ofChange sitesKnownSpec)

/-- ITS FALSE NEIGHBOUR: 'it returns false'. Refute it at one input. -/
def sitesKnownWrong : ChangeSpec := { name := "sitesKnown", fn := fun _ => fun
  | [] => { results := [.lit (.bool false)], args := [] }
  | _ => none }
def SitesKnownWrongFalsely : Prop := sitesKnownRow.holds Tryz.pinned (OpenSpec.ofChange sitesKnownWrong)

/-- 'chaperonlaw09.SitesMay': WHATEVER THE INPUT: true; the input reads as it did. -/
def sitesMaySpec : ChangeSpec := { name := "sitesMay", fn := fun _ => fun
  | [d1, d2, d3] => { results := [.lit (.bool true)], args := [d1, d2, d3] }
  | _ => none }
def sitesMayRow : OpenClaim := { program := "ythooiofaicdhgaagreatdoor", sum := "18691d105e337edd636d73bf3b7acb45e9af76fab2fa229b6ef9d67f4247ebaf", func := "chaperon/chaperonlaw09.SitesMay", spec := "sitesMay", inPlace := ["internal/abi.NoEscape", "internal/bytealg.MakeNoZero"], unfollowed := true, recurses := true, named := ["strings.asciiSpace", "unicode/utf8.first", "unicode/utf8.acceptRanges", "unicode.White_Space", "chaperon/words.bases", "chaperon/sites.kindWords", "internal/strconv.uint64pow10", "math/bits.deBruijn32tab", "math/bits.deBruijn64tab"], plainKeys := false, apart := false, laid := [("math/bits.deBruijn32tab", laid_math_bits_deBruijn32tab), ("math/bits.deBruijn64tab", laid_math_bits_deBruijn64tab), ("internal/strconv.uint64pow10", laid_internal_strconv_uint64pow10), ("unicode/utf8.acceptRanges", laid_unicode_utf8_acceptRanges), ("unicode.White_Space", laid_unicode_White_Space), ("strings.asciiSpace", laid_strings_asciiSpace), ("chaperon/words.bases", laid_chaperon_words_bases), ("chaperon/sites.kindWords", laid_chaperon_sites_kindWords), ("unicode/utf8.first", laid_unicode_utf8_first)] }
def SitesMaySaid : Prop := sitesMayRow.holds Tryz.pinned (OpenSpec.ofChange sitesMaySpec)

/-- ITS FALSE NEIGHBOUR: 'it returns false'. Refute it at one input. -/
def sitesMayWrong : ChangeSpec := { name := "sitesMay", fn := fun _ => fun
  | [d1, d2, d3] => { results := [.lit (.bool false)], args := [d1, d2, d3] }
  | _ => none }
def SitesMayWrongFalsely : Prop := sitesMayRow.holds Tryz.pinned (OpenSpec.ofChange sitesMayWrong)

/-- 'chaperonlaw09.SitesCasts': WHATEVER THE INPUT: true; the input reads as it did. -/
def sitesCastsSpec : ChangeSpec := { name := "sitesCasts", fn := fun _ => fun
  | [d1, d2, d3] => { results := [.lit (.bool true)], args := [d1, d2, d3] }
  | _ => none }
def sitesCastsRow : OpenClaim := { program := "ythooiofaicdhgaagreatdoor", sum := "18691d105e337edd636d73bf3b7acb45e9af76fab2fa229b6ef9d67f4247ebaf", func := "chaperon/chaperonlaw09.SitesCasts", spec := "sitesCasts", unfollowed := true, recurses := true, named := ["strings.asciiSpace", "unicode/utf8.first", "unicode/utf8.acceptRanges", "unicode.White_Space", "chaperon/words.bases"], plainKeys := false, apart := false, laid := [("unicode/utf8.acceptRanges", laid_unicode_utf8_acceptRanges), ("unicode.White_Space", laid_unicode_White_Space), ("strings.asciiSpace", laid_strings_asciiSpace), ("chaperon/words.bases", laid_chaperon_words_bases), ("unicode/utf8.first", laid_unicode_utf8_first)] }
def SitesCastsSaid : Prop := sitesCastsRow.holds Tryz.pinned (OpenSpec.ofChange sitesCastsSpec)

/-- ITS FALSE NEIGHBOUR: 'it returns false'. Refute it at one input. -/
def sitesCastsWrong : ChangeSpec := { name := "sitesCasts", fn := fun _ => fun
  | [d1, d2, d3] => { results := [.lit (.bool false)], args := [d1, d2, d3] }
  | _ => none }
def SitesCastsWrongFalsely : Prop := sitesCastsRow.holds Tryz.pinned (OpenSpec.ofChange sitesCastsWrong)

/-- 'chaperonlaw09.SitesMore': WHATEVER THE INPUT: true; the input reads as it did. -/
def sitesMoreSpec : ChangeSpec := { name := "sitesMore", fn := fun _ => fun
  | [d1, d2, d3, d4] => { results := [.lit (.bool true)], args := [d1, d2, d3, d4] }
  | _ => none }
def sitesMoreRow : OpenClaim := { program := "ythooiofaicdhgaagreatdoor", sum := "18691d105e337edd636d73bf3b7acb45e9af76fab2fa229b6ef9d67f4247ebaf", func := "chaperon/chaperonlaw09.SitesMore", spec := "sitesMore", inPlace := ["internal/abi.NoEscape", "internal/bytealg.MakeNoZero"], unfollowed := true, recurses := true, named := ["strings.asciiSpace", "unicode/utf8.first", "unicode/utf8.acceptRanges", "unicode.White_Space", "chaperon/words.bases", "chaperon/sites.kindWords", "internal/strconv.uint64pow10", "math/bits.deBruijn32tab", "math/bits.deBruijn64tab"], plainKeys := false, apart := false, laid := [("math/bits.deBruijn32tab", laid_math_bits_deBruijn32tab), ("math/bits.deBruijn64tab", laid_math_bits_deBruijn64tab), ("internal/strconv.uint64pow10", laid_internal_strconv_uint64pow10), ("unicode/utf8.acceptRanges", laid_unicode_utf8_acceptRanges), ("unicode.White_Space", laid_unicode_White_Space), ("strings.asciiSpace", laid_strings_asciiSpace), ("chaperon/words.bases", laid_chaperon_words_bases), ("chaperon/sites.kindWords", laid_chaperon_sites_kindWords), ("unicode/utf8.first", laid_unicode_utf8_first)] }
def SitesMoreSaid : Prop := sitesMoreRow.holds Tryz.pinned (OpenSpec.ofChange sitesMoreSpec)

/-- ITS FALSE NEIGHBOUR: 'it returns false'. Refute it at one input. -/
def sitesMoreWrong : ChangeSpec := { name := "sitesMore", fn := fun _ => fun
  | [d1, d2, d3, d4] => { results := [.lit (.bool false)], args := [d1, d2, d3, d4] }
  | _ => none }
def SitesMoreWrongFalsely : Prop := sitesMoreRow.holds Tryz.pinned (OpenSpec.ofChange sitesMoreWrong)

/- THE SECOND FORM. 'bulk': how many values and letters a reading holds, each counted each time it is reached (what is shared counts as often as it is met; a slice's spare places count too). A statement '..UptoSaid' is the law's where the arguments, and the package variables that the reading takes, are together of bulk at most 1048576: NARROWER than '..Said'. Prove '..Said' where nothing that the law and all that it calls make is longer than what came in: it says more and counts as full. Else prove '..UptoSaid'. A law counts once. -/
mutual
def uptoBulk {H : Type} : DataW H → Nat
  | .lit (.string bytes) => bytes.length + 1
  | .lit _ => 1
  | .nil => 1
  | .ptr d => uptoBulk d + 1
  | .slice elems spare => uptoBulkAll elems + uptoBulkAll spare + 1
  | .agg parts => uptoBulkAll parts + 1
  | .iface _ d => uptoBulk d + 1
  | .map entries => uptoBulkEntries entries + 1
  | .held _ => 1
def uptoBulkAll {H : Type} : List (DataW H) → Nat
  | [] => 0
  | d :: r => uptoBulk d + uptoBulkAll r
def uptoBulkEntries {H : Type} : List (Lit × DataW H) → Nat
  | [] => 0
  | x :: r => uptoBulkEntry x + uptoBulkEntries r
def uptoBulkEntry {H : Type} : Lit × DataW H → Nat
  | (.string bytes, d) => bytes.length + uptoBulk d + 1
  | (_, d) => uptoBulk d + 1
 end
def uptoSmall : (H : Type) → List (DataW H) → Bool := fun _ ds => decide (uptoBulkAll ds ≤ 1048576)
def OpenSpec.upto (s : _root_.Go.ChangeSpec) : _root_.Go.OpenSpec := { _root_.Go.OpenSpec.ofChange s with cond := some uptoSmall }

/-- 'chaperonlaw06.SubtypeTells', WHERE WHAT IT READS IS OF BULK AT MOST 1048576: true; the input reads as it did. -/
def subtypeTellsUptoRow : OpenClaim := { program := "ythooiofaicdhgaagreatdoor", sum := "18691d105e337edd636d73bf3b7acb45e9af76fab2fa229b6ef9d67f4247ebaf", func := "chaperon/chaperonlaw06.SubtypeTells", spec := "subtypeTells", unfollowed := true, recurses := true, named := ["strings.asciiSpace", "unicode/utf8.first", "unicode/utf8.acceptRanges", "unicode.White_Space", "chaperon/words.bases"], plainKeys := false, apart := false, laid := [("unicode/utf8.acceptRanges", laid_unicode_utf8_acceptRanges), ("unicode.White_Space", laid_unicode_White_Space), ("strings.asciiSpace", laid_strings_asciiSpace), ("chaperon/words.bases", laid_chaperon_words_bases), ("unicode/utf8.first", laid_unicode_utf8_first)], narrowed := true }
def SubtypeTellsUptoSaid : Prop := subtypeTellsUptoRow.holds Tryz.pinned (OpenSpec.upto subtypeTellsSpec)

/-- 'chaperonlaw07.ConsistTells', WHERE WHAT IT READS IS OF BULK AT MOST 1048576: true; the input reads as it did. -/
def consistTellsUptoRow : OpenClaim := { program := "ythooiofaicdhgaagreatdoor", sum := "18691d105e337edd636d73bf3b7acb45e9af76fab2fa229b6ef9d67f4247ebaf", func := "chaperon/chaperonlaw07.ConsistTells", spec := "consistTells", unfollowed := true, recurses := true, named := ["strings.asciiSpace", "unicode/utf8.first", "unicode/utf8.acceptRanges", "unicode.White_Space", "chaperon/words.bases"], plainKeys := false, apart := false, laid := [("unicode/utf8.acceptRanges", laid_unicode_utf8_acceptRanges), ("unicode.White_Space", laid_unicode_White_Space), ("strings.asciiSpace", laid_strings_asciiSpace), ("chaperon/words.bases", laid_chaperon_words_bases), ("unicode/utf8.first", laid_unicode_utf8_first)], narrowed := true }
def ConsistTellsUptoSaid : Prop := consistTellsUptoRow.holds Tryz.pinned (OpenSpec.upto consistTellsSpec)

/-- 'chaperonlaw07.ConsistGreatest', WHERE WHAT IT READS IS OF BULK AT MOST 1048576: true; the input reads as it did. -/
def consistGreatestUptoRow : OpenClaim := { program := "ythooiofaicdhgaagreatdoor", sum := "18691d105e337edd636d73bf3b7acb45e9af76fab2fa229b6ef9d67f4247ebaf", func := "chaperon/chaperonlaw07.ConsistGreatest", spec := "consistGreatest", unfollowed := true, recurses := true, named := ["strings.asciiSpace", "unicode/utf8.first", "unicode/utf8.acceptRanges", "unicode.White_Space", "chaperon/words.bases"], plainKeys := false, apart := false, laid := [("unicode/utf8.acceptRanges", laid_unicode_utf8_acceptRanges), ("unicode.White_Space", laid_unicode_White_Space), ("strings.asciiSpace", laid_strings_asciiSpace), ("chaperon/words.bases", laid_chaperon_words_bases), ("unicode/utf8.first", laid_unicode_utf8_first)], narrowed := true }
def ConsistGreatestUptoSaid : Prop := consistGreatestUptoRow.holds Tryz.pinned (OpenSpec.upto consistGreatestSpec)

/-- 'chaperonlaw07.ConsistLooser', WHERE WHAT IT READS IS OF BULK AT MOST 1048576: true; the input reads as it did. -/
def consistLooserUptoRow : OpenClaim := { program := "ythooiofaicdhgaagreatdoor", sum := "18691d105e337edd636d73bf3b7acb45e9af76fab2fa229b6ef9d67f4247ebaf", func := "chaperon/chaperonlaw07.ConsistLooser", spec := "consistLooser", unfollowed := true, recurses := true, named := ["strings.asciiSpace", "unicode/utf8.first", "unicode/utf8.acceptRanges", "unicode.White_Space", "chaperon/words.bases"], plainKeys := false, apart := false, laid := [("unicode/utf8.acceptRanges", laid_unicode_utf8_acceptRanges), ("unicode.White_Space", laid_unicode_White_Space), ("strings.asciiSpace", laid_strings_asciiSpace), ("chaperon/words.bases", laid_chaperon_words_bases), ("unicode/utf8.first", laid_unicode_utf8_first)], narrowed := true }
def ConsistLooserUptoSaid : Prop := consistLooserUptoRow.holds Tryz.pinned (OpenSpec.upto consistLooserSpec)

/-- 'chaperonlaw08.PreciseTells', WHERE WHAT IT READS IS OF BULK AT MOST 1048576: true; the input reads as it did. -/
def preciseTellsUptoRow : OpenClaim := { program := "ythooiofaicdhgaagreatdoor", sum := "18691d105e337edd636d73bf3b7acb45e9af76fab2fa229b6ef9d67f4247ebaf", func := "chaperon/chaperonlaw08.PreciseTells", spec := "preciseTells", unfollowed := true, recurses := true, named := ["strings.asciiSpace", "unicode/utf8.first", "unicode/utf8.acceptRanges", "unicode.White_Space", "chaperon/words.bases"], plainKeys := false, apart := false, laid := [("unicode/utf8.acceptRanges", laid_unicode_utf8_acceptRanges), ("unicode.White_Space", laid_unicode_White_Space), ("strings.asciiSpace", laid_strings_asciiSpace), ("chaperon/words.bases", laid_chaperon_words_bases), ("unicode/utf8.first", laid_unicode_utf8_first)], narrowed := true }
def PreciseTellsUptoSaid : Prop := preciseTellsUptoRow.holds Tryz.pinned (OpenSpec.upto preciseTellsSpec)

/-- 'chaperonlaw08.PreciseGreatest', WHERE WHAT IT READS IS OF BULK AT MOST 1048576: true; the input reads as it did. -/
def preciseGreatestUptoRow : OpenClaim := { program := "ythooiofaicdhgaagreatdoor", sum := "18691d105e337edd636d73bf3b7acb45e9af76fab2fa229b6ef9d67f4247ebaf", func := "chaperon/chaperonlaw08.PreciseGreatest", spec := "preciseGreatest", unfollowed := true, recurses := true, named := ["strings.asciiSpace", "unicode/utf8.first", "unicode/utf8.acceptRanges", "unicode.White_Space", "chaperon/words.bases"], plainKeys := false, apart := false, laid := [("unicode/utf8.acceptRanges", laid_unicode_utf8_acceptRanges), ("unicode.White_Space", laid_unicode_White_Space), ("strings.asciiSpace", laid_strings_asciiSpace), ("chaperon/words.bases", laid_chaperon_words_bases), ("unicode/utf8.first", laid_unicode_utf8_first)], narrowed := true }
def PreciseGreatestUptoSaid : Prop := preciseGreatestUptoRow.holds Tryz.pinned (OpenSpec.upto preciseGreatestSpec)

/-- 'chaperonlaw09.SitesChecks', WHERE WHAT IT READS IS OF BULK AT MOST 1048576: true; the input reads as it did. -/
def sitesChecksUptoRow : OpenClaim := { program := "ythooiofaicdhgaagreatdoor", sum := "18691d105e337edd636d73bf3b7acb45e9af76fab2fa229b6ef9d67f4247ebaf", func := "chaperon/chaperonlaw09.SitesChecks", spec := "sitesChecks", unfollowed := true, recurses := true, named := ["strings.asciiSpace", "unicode/utf8.first", "unicode/utf8.acceptRanges", "unicode.White_Space", "chaperon/words.bases"], plainKeys := false, apart := false, laid := [("unicode/utf8.acceptRanges", laid_unicode_utf8_acceptRanges), ("unicode.White_Space", laid_unicode_White_Space), ("strings.asciiSpace", laid_strings_asciiSpace), ("chaperon/words.bases", laid_chaperon_words_bases), ("unicode/utf8.first", laid_unicode_utf8_first)], narrowed := true }
def SitesChecksUptoSaid : Prop := sitesChecksUptoRow.holds Tryz.pinned (OpenSpec.upto sitesChecksSpec)

/-- 'chaperonlaw09.SitesTells', WHERE WHAT IT READS IS OF BULK AT MOST 1048576: true; the input reads as it did. -/
def sitesTellsUptoRow : OpenClaim := { program := "ythooiofaicdhgaagreatdoor", sum := "18691d105e337edd636d73bf3b7acb45e9af76fab2fa229b6ef9d67f4247ebaf", func := "chaperon/chaperonlaw09.SitesTells", spec := "sitesTells", inPlace := ["internal/abi.NoEscape", "internal/bytealg.MakeNoZero"], unfollowed := true, recurses := true, named := ["strings.asciiSpace", "unicode/utf8.first", "unicode/utf8.acceptRanges", "unicode.White_Space", "chaperon/words.bases", "chaperon/sites.kindWords", "internal/strconv.uint64pow10", "math/bits.deBruijn32tab", "math/bits.deBruijn64tab"], plainKeys := false, apart := false, laid := [("math/bits.deBruijn32tab", laid_math_bits_deBruijn32tab), ("math/bits.deBruijn64tab", laid_math_bits_deBruijn64tab), ("internal/strconv.uint64pow10", laid_internal_strconv_uint64pow10), ("unicode/utf8.acceptRanges", laid_unicode_utf8_acceptRanges), ("unicode.White_Space", laid_unicode_White_Space), ("strings.asciiSpace", laid_strings_asciiSpace), ("chaperon/words.bases", laid_chaperon_words_bases), ("chaperon/sites.kindWords", laid_chaperon_sites_kindWords), ("unicode/utf8.first", laid_unicode_utf8_first)], narrowed := true }
def SitesTellsUptoSaid : Prop := sitesTellsUptoRow.holds Tryz.pinned (OpenSpec.upto sitesTellsSpec)

/-- 'chaperonlaw09.SitesKnown', WHERE WHAT IT READS IS OF BULK AT MOST 1048576: true; the input reads as it did. -/
def sitesKnownUptoRow : OpenClaim := { program := "ythooiofaicdhgaagreatdoor", sum := "18691d105e337edd636d73bf3b7acb45e9af76fab2fa229b6ef9d67f4247ebaf", func := "chaperon/chaperonlaw09.SitesKnown", spec := "sitesKnown", inPlace := ["internal/abi.NoEscape", "internal/bytealg.MakeNoZero"], unfollowed := true, recurses := true, named := ["strings.asciiSpace", "unicode/utf8.first", "unicode/utf8.acceptRanges", "unicode.White_Space", "chaperon/words.bases", "chaperon/sites.kindWords", "internal/strconv.uint64pow10", "math/bits.deBruijn32tab", "math/bits.deBruijn64tab"], plainKeys := false, apart := false, laid := [("math/bits.deBruijn32tab", laid_math_bits_deBruijn32tab), ("math/bits.deBruijn64tab", laid_math_bits_deBruijn64tab), ("internal/strconv.uint64pow10", laid_internal_strconv_uint64pow10), ("unicode/utf8.acceptRanges", laid_unicode_utf8_acceptRanges), ("unicode.White_Space", laid_unicode_White_Space), ("strings.asciiSpace", laid_strings_asciiSpace), ("chaperon/words.bases", laid_chaperon_words_bases), ("chaperon/sites.kindWords", laid_chaperon_sites_kindWords), ("unicode/utf8.first", laid_unicode_utf8_first)], narrowed := true }
def SitesKnownUptoSaid : Prop := sitesKnownUptoRow.holds Tryz.pinned (OpenSpec.upto sitesKnownSpec)

/-- 'chaperonlaw09.SitesMay', WHERE WHAT IT READS IS OF BULK AT MOST 1048576: true; the input reads as it did. -/
def sitesMayUptoRow : OpenClaim := { program := "ythooiofaicdhgaagreatdoor", sum := "18691d105e337edd636d73bf3b7acb45e9af76fab2fa229b6ef9d67f4247ebaf", func := "chaperon/chaperonlaw09.SitesMay", spec := "sitesMay", inPlace := ["internal/abi.NoEscape", "internal/bytealg.MakeNoZero"], unfollowed := true, recurses := true, named := ["strings.asciiSpace", "unicode/utf8.first", "unicode/utf8.acceptRanges", "unicode.White_Space", "chaperon/words.bases", "chaperon/sites.kindWords", "internal/strconv.uint64pow10", "math/bits.deBruijn32tab", "math/bits.deBruijn64tab"], plainKeys := false, apart := false, laid := [("math/bits.deBruijn32tab", laid_math_bits_deBruijn32tab), ("math/bits.deBruijn64tab", laid_math_bits_deBruijn64tab), ("internal/strconv.uint64pow10", laid_internal_strconv_uint64pow10), ("unicode/utf8.acceptRanges", laid_unicode_utf8_acceptRanges), ("unicode.White_Space", laid_unicode_White_Space), ("strings.asciiSpace", laid_strings_asciiSpace), ("chaperon/words.bases", laid_chaperon_words_bases), ("chaperon/sites.kindWords", laid_chaperon_sites_kindWords), ("unicode/utf8.first", laid_unicode_utf8_first)], narrowed := true }
def SitesMayUptoSaid : Prop := sitesMayUptoRow.holds Tryz.pinned (OpenSpec.upto sitesMaySpec)

/-- 'chaperonlaw09.SitesCasts', WHERE WHAT IT READS IS OF BULK AT MOST 1048576: true; the input reads as it did. -/
def sitesCastsUptoRow : OpenClaim := { program := "ythooiofaicdhgaagreatdoor", sum := "18691d105e337edd636d73bf3b7acb45e9af76fab2fa229b6ef9d67f4247ebaf", func := "chaperon/chaperonlaw09.SitesCasts", spec := "sitesCasts", unfollowed := true, recurses := true, named := ["strings.asciiSpace", "unicode/utf8.first", "unicode/utf8.acceptRanges", "unicode.White_Space", "chaperon/words.bases"], plainKeys := false, apart := false, laid := [("unicode/utf8.acceptRanges", laid_unicode_utf8_acceptRanges), ("unicode.White_Space", laid_unicode_White_Space), ("strings.asciiSpace", laid_strings_asciiSpace), ("chaperon/words.bases", laid_chaperon_words_bases), ("unicode/utf8.first", laid_unicode_utf8_first)], narrowed := true }
def SitesCastsUptoSaid : Prop := sitesCastsUptoRow.holds Tryz.pinned (OpenSpec.upto sitesCastsSpec)

/-- 'chaperonlaw09.SitesMore', WHERE WHAT IT READS IS OF BULK AT MOST 1048576: true; the input reads as it did. -/
def sitesMoreUptoRow : OpenClaim := { program := "ythooiofaicdhgaagreatdoor", sum := "18691d105e337edd636d73bf3b7acb45e9af76fab2fa229b6ef9d67f4247ebaf", func := "chaperon/chaperonlaw09.SitesMore", spec := "sitesMore", inPlace := ["internal/abi.NoEscape", "internal/bytealg.MakeNoZero"], unfollowed := true, recurses := true, named := ["strings.asciiSpace", "unicode/utf8.first", "unicode/utf8.acceptRanges", "unicode.White_Space", "chaperon/words.bases", "chaperon/sites.kindWords", "internal/strconv.uint64pow10", "math/bits.deBruijn32tab", "math/bits.deBruijn64tab"], plainKeys := false, apart := false, laid := [("math/bits.deBruijn32tab", laid_math_bits_deBruijn32tab), ("math/bits.deBruijn64tab", laid_math_bits_deBruijn64tab), ("internal/strconv.uint64pow10", laid_internal_strconv_uint64pow10), ("unicode/utf8.acceptRanges", laid_unicode_utf8_acceptRanges), ("unicode.White_Space", laid_unicode_White_Space), ("strings.asciiSpace", laid_strings_asciiSpace), ("chaperon/words.bases", laid_chaperon_words_bases), ("chaperon/sites.kindWords", laid_chaperon_sites_kindWords), ("unicode/utf8.first", laid_unicode_utf8_first)], narrowed := true }
def SitesMoreUptoSaid : Prop := sitesMoreUptoRow.holds Tryz.pinned (OpenSpec.upto sitesMoreSpec)

end Rows
end Go.Proofs.YthooiofaicdhgaaGreatDoor
