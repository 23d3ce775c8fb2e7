/-
  NARROWER THAN 'FOR EVERY INPUT', by the rows' own cells (each row's printed sentence says how): OpersTypes: laid · OpersDo: laid · OpersKnown: laid · OpersSound: laid · OpersGround: laid.
  DERIVED. THE GIVEN ROWS OF THIS SEAT. 5 by the template 'for every input the law returns true; each argument reads behind the call as it read before'; 0 by the template 'total and deterministic' (their statements: YtcaailiijmjdlaaGreatDoorTotals.lean).
  GIVEN WITH THE SEED: the statements are not yours to turn. If you find one false, say at which input.
  Laid BY PROGRAM, IN A SANDBOX (cutbox-rows.mjs): the forced cells as the released guide's own fill.sh prints them over the translation 8b69a6991dea03dc… (all of the seat's roots in one cut). By AI agents, Wed Nov 11 2026. No macro, syntax, notation, axiom, sorry.
-/
import Derived.Test.YtcaailiijmjdlaaGreatDoorChecked
import GoSem.Claim
import GoSem.ClaimJoined
import GoSem.ClaimMapViews
import Derived.JoinedTies
import Derived.KernelRfl
namespace Go.Proofs.YtcaailiijmjdlaaGreatDoor
/- THE CELL 'sum', in the pinned program and in every row, IS THE sha256 OF THE DUMP (.gsa) THAT YtcaailiijmjdlaaGreatDoorProg.lean LOADS. Nothing in Lean hashes anything: it is a label: what it is worth is what the hold of that sum in a sandbox is worth. -/
noncomputable def Tryz.pinned : Pinned := { name := "ytcaailiijmjdlaagreatdoor", sum := "8b69a6991dea03dc87bfa6bbc9dd23fcdc76463418ba9884adcc4f7427549448", checked := Tryz.checked }
namespace Rows
def none {H : Type} : Left H := { results := [], args := [] }

/- WHAT THE LISTED PACKAGE-LEVEL VARIABLES READ AS WHEN THE CALL BEGINS. Each datum BY PROGRAM (the guide's laid-datum.mjs) off the statement by which the dump's own 'gosem.cut.vars' lays the variable. In a bare row this is a premise. The card (YtcaailiijmjdlaaGreatDoorCards.lean) ties it to the program's text. -/
def laid_chaperon_words_bases {H : Type} : DataW H := .agg [.agg [.lit (.string [105, 110, 116]), .lit (.int .i64 1)], .agg [.lit (.string [114, 101, 97, 108]), .lit (.int .i64 2)], .agg [.lit (.string [98, 111, 111, 108]), .lit (.int .i64 3)], .agg [.lit (.string [115, 116, 114]), .lit (.int .i64 4)], .agg [.lit (.string [117, 110, 105, 116]), .lit (.int .i64 5)]]
def laid_math_bits_deBruijn32tab {H : Type} : DataW H := .agg [.lit (.int .u8 0), .lit (.int .u8 1), .lit (.int .u8 28), .lit (.int .u8 2), .lit (.int .u8 29), .lit (.int .u8 14), .lit (.int .u8 24), .lit (.int .u8 3), .lit (.int .u8 30), .lit (.int .u8 22), .lit (.int .u8 20), .lit (.int .u8 15), .lit (.int .u8 25), .lit (.int .u8 17), .lit (.int .u8 4), .lit (.int .u8 8), .lit (.int .u8 31), .lit (.int .u8 27), .lit (.int .u8 13), .lit (.int .u8 23), .lit (.int .u8 21), .lit (.int .u8 19), .lit (.int .u8 16), .lit (.int .u8 7), .lit (.int .u8 26), .lit (.int .u8 12), .lit (.int .u8 18), .lit (.int .u8 6), .lit (.int .u8 11), .lit (.int .u8 5), .lit (.int .u8 10), .lit (.int .u8 9)]
def laid_math_bits_deBruijn64tab {H : Type} : DataW H := .agg [.lit (.int .u8 0), .lit (.int .u8 1), .lit (.int .u8 56), .lit (.int .u8 2), .lit (.int .u8 57), .lit (.int .u8 49), .lit (.int .u8 28), .lit (.int .u8 3), .lit (.int .u8 61), .lit (.int .u8 58), .lit (.int .u8 42), .lit (.int .u8 50), .lit (.int .u8 38), .lit (.int .u8 29), .lit (.int .u8 17), .lit (.int .u8 4), .lit (.int .u8 62), .lit (.int .u8 47), .lit (.int .u8 59), .lit (.int .u8 36), .lit (.int .u8 45), .lit (.int .u8 43), .lit (.int .u8 51), .lit (.int .u8 22), .lit (.int .u8 53), .lit (.int .u8 39), .lit (.int .u8 33), .lit (.int .u8 30), .lit (.int .u8 24), .lit (.int .u8 18), .lit (.int .u8 12), .lit (.int .u8 5), .lit (.int .u8 63), .lit (.int .u8 55), .lit (.int .u8 48), .lit (.int .u8 27), .lit (.int .u8 60), .lit (.int .u8 41), .lit (.int .u8 37), .lit (.int .u8 16), .lit (.int .u8 46), .lit (.int .u8 35), .lit (.int .u8 44), .lit (.int .u8 21), .lit (.int .u8 52), .lit (.int .u8 32), .lit (.int .u8 23), .lit (.int .u8 11), .lit (.int .u8 54), .lit (.int .u8 26), .lit (.int .u8 40), .lit (.int .u8 15), .lit (.int .u8 34), .lit (.int .u8 20), .lit (.int .u8 31), .lit (.int .u8 10), .lit (.int .u8 25), .lit (.int .u8 14), .lit (.int .u8 19), .lit (.int .u8 9), .lit (.int .u8 13), .lit (.int .u8 8), .lit (.int .u8 7), .lit (.int .u8 6)]
def laid_internal_strconv_uint64pow10 {H : Type} : DataW H := .agg [.lit (.int .u64 1), .lit (.int .u64 10), .lit (.int .u64 100), .lit (.int .u64 1000), .lit (.int .u64 10000), .lit (.int .u64 100000), .lit (.int .u64 1000000), .lit (.int .u64 10000000), .lit (.int .u64 100000000), .lit (.int .u64 1000000000), .lit (.int .u64 10000000000), .lit (.int .u64 100000000000), .lit (.int .u64 1000000000000), .lit (.int .u64 10000000000000), .lit (.int .u64 100000000000000), .lit (.int .u64 1000000000000000), .lit (.int .u64 10000000000000000), .lit (.int .u64 100000000000000000), .lit (.int .u64 1000000000000000000), .lit (.int .u64 10000000000000000000)]

/-- 'chaperonlaw15.OpersTypes': WHATEVER THE INPUT: true; the input reads as it did. -/
def opersTypesSpec : ChangeSpec := { name := "opersTypes", fn := fun _ => fun
  | [d1, d2, d3] => { results := [.lit (.bool true)], args := [d1, d2, d3] }
  | _ => none }
def opersTypesRow : OpenClaim := { program := "ytcaailiijmjdlaagreatdoor", sum := "8b69a6991dea03dc87bfa6bbc9dd23fcdc76463418ba9884adcc4f7427549448", func := "chaperon/chaperonlaw15.OpersTypes", spec := "opersTypes", inPlace := ["math.Float64frombits", "math.Float64bits"], unfollowed := true, recurses := true, named := ["chaperon/words.bases"], apart := false, laid := [("chaperon/words.bases", laid_chaperon_words_bases)] }
def OpersTypesSaid : Prop := opersTypesRow.holds Tryz.pinned (OpenSpec.ofChange opersTypesSpec)

/-- ITS FALSE NEIGHBOUR: 'it returns false'. Refute it at one input. -/
def opersTypesWrong : ChangeSpec := { name := "opersTypes", fn := fun _ => fun
  | [d1, d2, d3] => { results := [.lit (.bool false)], args := [d1, d2, d3] }
  | _ => none }
def OpersTypesWrongFalsely : Prop := opersTypesRow.holds Tryz.pinned (OpenSpec.ofChange opersTypesWrong)

/-- 'chaperonlaw15.OpersDo': WHATEVER THE INPUT: true; the input reads as it did. -/
def opersDoSpec : ChangeSpec := { name := "opersDo", fn := fun _ => fun
  | [d1, d2, d3] => { results := [.lit (.bool true)], args := [d1, d2, d3] }
  | _ => none }
def opersDoRow : OpenClaim := { program := "ytcaailiijmjdlaagreatdoor", sum := "8b69a6991dea03dc87bfa6bbc9dd23fcdc76463418ba9884adcc4f7427549448", func := "chaperon/chaperonlaw15.OpersDo", spec := "opersDo", inPlace := ["math.Float64frombits", "math.Float64bits", "internal/abi.NoEscape", "internal/bytealg.MakeNoZero"], unfollowed := true, recurses := true, named := ["chaperon/words.bases", "internal/strconv.uint64pow10", "math/bits.deBruijn32tab", "math/bits.deBruijn64tab"], apart := false, laid := [("math/bits.deBruijn32tab", laid_math_bits_deBruijn32tab), ("math/bits.deBruijn64tab", laid_math_bits_deBruijn64tab), ("internal/strconv.uint64pow10", laid_internal_strconv_uint64pow10), ("chaperon/words.bases", laid_chaperon_words_bases)] }
def OpersDoSaid : Prop := opersDoRow.holds Tryz.pinned (OpenSpec.ofChange opersDoSpec)

/-- ITS FALSE NEIGHBOUR: 'it returns false'. Refute it at one input. -/
def opersDoWrong : ChangeSpec := { name := "opersDo", fn := fun _ => fun
  | [d1, d2, d3] => { results := [.lit (.bool false)], args := [d1, d2, d3] }
  | _ => none }
def OpersDoWrongFalsely : Prop := opersDoRow.holds Tryz.pinned (OpenSpec.ofChange opersDoWrong)

/-- 'chaperonlaw15.OpersKnown': WHATEVER THE INPUT: true; the input reads as it did. -/
def opersKnownSpec : ChangeSpec := { name := "opersKnown", fn := fun _ => fun
  | [] => { results := [.lit (.bool true)], args := [] }
  | _ => none }
def opersKnownRow : OpenClaim := { program := "ytcaailiijmjdlaagreatdoor", sum := "8b69a6991dea03dc87bfa6bbc9dd23fcdc76463418ba9884adcc4f7427549448", func := "chaperon/chaperonlaw15.OpersKnown", spec := "opersKnown", inPlace := ["math.Float64frombits", "math.Float64bits", "internal/abi.NoEscape", "internal/bytealg.MakeNoZero"], unfollowed := true, recurses := true, named := ["chaperon/words.bases", "internal/strconv.uint64pow10", "math/bits.deBruijn32tab", "math/bits.deBruijn64tab"], apart := false, laid := [("math/bits.deBruijn32tab", laid_math_bits_deBruijn32tab), ("math/bits.deBruijn64tab", laid_math_bits_deBruijn64tab), ("internal/strconv.uint64pow10", laid_internal_strconv_uint64pow10), ("chaperon/words.bases", laid_chaperon_words_bases)] }
def OpersKnownSaid : Prop := opersKnownRow.holds Tryz.pinned (OpenSpec.ofChange opersKnownSpec)

/-- ITS FALSE NEIGHBOUR: 'it returns false'. Refute it at one input. -/
def opersKnownWrong : ChangeSpec := { name := "opersKnown", fn := fun _ => fun
  | [] => { results := [.lit (.bool false)], args := [] }
  | _ => none }
def OpersKnownWrongFalsely : Prop := opersKnownRow.holds Tryz.pinned (OpenSpec.ofChange opersKnownWrong)

/-- 'chaperonlaw15.OpersSound': WHATEVER THE INPUT: true; the input reads as it did. -/
def opersSoundSpec : ChangeSpec := { name := "opersSound", fn := fun _ => fun
  | [d1, d2, d3] => { results := [.lit (.bool true)], args := [d1, d2, d3] }
  | _ => none }
def opersSoundRow : OpenClaim := { program := "ytcaailiijmjdlaagreatdoor", sum := "8b69a6991dea03dc87bfa6bbc9dd23fcdc76463418ba9884adcc4f7427549448", func := "chaperon/chaperonlaw15.OpersSound", spec := "opersSound", inPlace := ["math.Float64frombits", "math.Float64bits", "internal/abi.NoEscape", "internal/bytealg.MakeNoZero"], unfollowed := true, recurses := true, named := ["chaperon/words.bases", "internal/strconv.uint64pow10", "math/bits.deBruijn32tab", "math/bits.deBruijn64tab"], apart := false, laid := [("math/bits.deBruijn32tab", laid_math_bits_deBruijn32tab), ("math/bits.deBruijn64tab", laid_math_bits_deBruijn64tab), ("internal/strconv.uint64pow10", laid_internal_strconv_uint64pow10), ("chaperon/words.bases", laid_chaperon_words_bases)] }
def OpersSoundSaid : Prop := opersSoundRow.holds Tryz.pinned (OpenSpec.ofChange opersSoundSpec)

/-- ITS FALSE NEIGHBOUR: 'it returns false'. Refute it at one input. -/
def opersSoundWrong : ChangeSpec := { name := "opersSound", fn := fun _ => fun
  | [d1, d2, d3] => { results := [.lit (.bool false)], args := [d1, d2, d3] }
  | _ => none }
def OpersSoundWrongFalsely : Prop := opersSoundRow.holds Tryz.pinned (OpenSpec.ofChange opersSoundWrong)

/-- 'chaperonlaw15.OpersGround': WHATEVER THE INPUT: true; the input reads as it did. -/
def opersGroundSpec : ChangeSpec := { name := "opersGround", fn := fun _ => fun
  | [d1, d2, d3, d4, d5, d6] => { results := [.lit (.bool true)], args := [d1, d2, d3, d4, d5, d6] }
  | _ => none }
def opersGroundRow : OpenClaim := { program := "ytcaailiijmjdlaagreatdoor", sum := "8b69a6991dea03dc87bfa6bbc9dd23fcdc76463418ba9884adcc4f7427549448", func := "chaperon/chaperonlaw15.OpersGround", spec := "opersGround", inPlace := ["math.Float64frombits", "math.Float64bits", "internal/abi.NoEscape", "internal/bytealg.MakeNoZero"], unfollowed := true, recurses := true, named := ["chaperon/words.bases", "internal/strconv.uint64pow10", "math/bits.deBruijn32tab", "math/bits.deBruijn64tab"], apart := false, laid := [("math/bits.deBruijn32tab", laid_math_bits_deBruijn32tab), ("math/bits.deBruijn64tab", laid_math_bits_deBruijn64tab), ("internal/strconv.uint64pow10", laid_internal_strconv_uint64pow10), ("chaperon/words.bases", laid_chaperon_words_bases)] }
def OpersGroundSaid : Prop := opersGroundRow.holds Tryz.pinned (OpenSpec.ofChange opersGroundSpec)

/-- ITS FALSE NEIGHBOUR: 'it returns false'. Refute it at one input. -/
def opersGroundWrong : ChangeSpec := { name := "opersGround", fn := fun _ => fun
  | [d1, d2, d3, d4, d5, d6] => { results := [.lit (.bool false)], args := [d1, d2, d3, d4, d5, d6] }
  | _ => none }
def OpersGroundWrongFalsely : Prop := opersGroundRow.holds Tryz.pinned (OpenSpec.ofChange opersGroundWrong)

/- THE SECOND FORM. 'bulk': how many values and letters a reading holds, each counted each time it is reached (what is shared counts as often as it is met; a slice's spare places count too). A statement '..UptoSaid' is the law's where the arguments, and the package variables that the reading takes, are together of bulk at most 1048576: NARROWER than '..Said'. Prove '..Said' where nothing that the law and all that it calls make is longer than what came in: it says more and counts as full. Else prove '..UptoSaid'. A law counts once. -/
mutual
def uptoBulk {H : Type} : DataW H → Nat
  | .lit (.string bytes) => bytes.length + 1
  | .lit _ => 1
  | .nil => 1
  | .ptr d => uptoBulk d + 1
  | .slice elems spare => uptoBulkAll elems + uptoBulkAll spare + 1
  | .agg parts => uptoBulkAll parts + 1
  | .iface _ d => uptoBulk d + 1
  | .map entries => uptoBulkEntries entries + 1
  | .held _ => 1
def uptoBulkAll {H : Type} : List (DataW H) → Nat
  | [] => 0
  | d :: r => uptoBulk d + uptoBulkAll r
def uptoBulkEntries {H : Type} : List (Lit × DataW H) → Nat
  | [] => 0
  | x :: r => uptoBulkEntry x + uptoBulkEntries r
def uptoBulkEntry {H : Type} : Lit × DataW H → Nat
  | (.string bytes, d) => bytes.length + uptoBulk d + 1
  | (_, d) => uptoBulk d + 1
 end
def uptoSmall : (H : Type) → List (DataW H) → Bool := fun _ ds => decide (uptoBulkAll ds ≤ 1048576)
def OpenSpec.upto (s : _root_.Go.ChangeSpec) : _root_.Go.OpenSpec := { _root_.Go.OpenSpec.ofChange s with cond := some uptoSmall }

/-- 'chaperonlaw15.OpersTypes', WHERE WHAT IT READS IS OF BULK AT MOST 1048576: true; the input reads as it did. -/
def opersTypesUptoRow : OpenClaim := { program := "ytcaailiijmjdlaagreatdoor", sum := "8b69a6991dea03dc87bfa6bbc9dd23fcdc76463418ba9884adcc4f7427549448", func := "chaperon/chaperonlaw15.OpersTypes", spec := "opersTypes", inPlace := ["math.Float64frombits", "math.Float64bits"], unfollowed := true, recurses := true, named := ["chaperon/words.bases"], apart := false, laid := [("chaperon/words.bases", laid_chaperon_words_bases)], narrowed := true }
def OpersTypesUptoSaid : Prop := opersTypesUptoRow.holds Tryz.pinned (OpenSpec.upto opersTypesSpec)

/-- 'chaperonlaw15.OpersDo', WHERE WHAT IT READS IS OF BULK AT MOST 1048576: true; the input reads as it did. -/
def opersDoUptoRow : OpenClaim := { program := "ytcaailiijmjdlaagreatdoor", sum := "8b69a6991dea03dc87bfa6bbc9dd23fcdc76463418ba9884adcc4f7427549448", func := "chaperon/chaperonlaw15.OpersDo", spec := "opersDo", inPlace := ["math.Float64frombits", "math.Float64bits", "internal/abi.NoEscape", "internal/bytealg.MakeNoZero"], unfollowed := true, recurses := true, named := ["chaperon/words.bases", "internal/strconv.uint64pow10", "math/bits.deBruijn32tab", "math/bits.deBruijn64tab"], apart := false, laid := [("math/bits.deBruijn32tab", laid_math_bits_deBruijn32tab), ("math/bits.deBruijn64tab", laid_math_bits_deBruijn64tab), ("internal/strconv.uint64pow10", laid_internal_strconv_uint64pow10), ("chaperon/words.bases", laid_chaperon_words_bases)], narrowed := true }
def OpersDoUptoSaid : Prop := opersDoUptoRow.holds Tryz.pinned (OpenSpec.upto opersDoSpec)

/-- 'chaperonlaw15.OpersKnown', WHERE WHAT IT READS IS OF BULK AT MOST 1048576: true; the input reads as it did. -/
def opersKnownUptoRow : OpenClaim := { program := "ytcaailiijmjdlaagreatdoor", sum := "8b69a6991dea03dc87bfa6bbc9dd23fcdc76463418ba9884adcc4f7427549448", func := "chaperon/chaperonlaw15.OpersKnown", spec := "opersKnown", inPlace := ["math.Float64frombits", "math.Float64bits", "internal/abi.NoEscape", "internal/bytealg.MakeNoZero"], unfollowed := true, recurses := true, named := ["chaperon/words.bases", "internal/strconv.uint64pow10", "math/bits.deBruijn32tab", "math/bits.deBruijn64tab"], apart := false, laid := [("math/bits.deBruijn32tab", laid_math_bits_deBruijn32tab), ("math/bits.deBruijn64tab", laid_math_bits_deBruijn64tab), ("internal/strconv.uint64pow10", laid_internal_strconv_uint64pow10), ("chaperon/words.bases", laid_chaperon_words_bases)], narrowed := true }
def OpersKnownUptoSaid : Prop := opersKnownUptoRow.holds Tryz.pinned (OpenSpec.upto opersKnownSpec)

/-- 'chaperonlaw15.OpersSound', WHERE WHAT IT READS IS OF BULK AT MOST 1048576: true; the input reads as it did. -/
def opersSoundUptoRow : OpenClaim := { program := "ytcaailiijmjdlaagreatdoor", sum := "8b69a6991dea03dc87bfa6bbc9dd23fcdc76463418ba9884adcc4f7427549448", func := "chaperon/chaperonlaw15.OpersSound", spec := "opersSound", inPlace := ["math.Float64frombits", "math.Float64bits", "internal/abi.NoEscape", "internal/bytealg.MakeNoZero"], unfollowed := true, recurses := true, named := ["chaperon/words.bases", "internal/strconv.uint64pow10", "math/bits.deBruijn32tab", "math/bits.deBruijn64tab"], apart := false, laid := [("math/bits.deBruijn32tab", laid_math_bits_deBruijn32tab), ("math/bits.deBruijn64tab", laid_math_bits_deBruijn64tab), ("internal/strconv.uint64pow10", laid_internal_strconv_uint64pow10), ("chaperon/words.bases", laid_chaperon_words_bases)], narrowed := true }
def OpersSoundUptoSaid : Prop := opersSoundUptoRow.holds Tryz.pinned (OpenSpec.upto opersSoundSpec)

/-- 'chaperonlaw15.OpersGround', WHERE WHAT IT READS IS OF BULK AT MOST 1048576: true; the input reads as it did. -/
def opersGroundUptoRow : OpenClaim := { program := "ytcaailiijmjdlaagreatdoor", sum := "8b69a6991dea03dc87bfa6bbc9dd23fcdc76463418ba9884adcc4f7427549448", func := "chaperon/chaperonlaw15.OpersGround", spec := "opersGround", inPlace := ["math.Float64frombits", "math.Float64bits", "internal/abi.NoEscape", "internal/bytealg.MakeNoZero"], unfollowed := true, recurses := true, named := ["chaperon/words.bases", "internal/strconv.uint64pow10", "math/bits.deBruijn32tab", "math/bits.deBruijn64tab"], apart := false, laid := [("math/bits.deBruijn32tab", laid_math_bits_deBruijn32tab), ("math/bits.deBruijn64tab", laid_math_bits_deBruijn64tab), ("internal/strconv.uint64pow10", laid_internal_strconv_uint64pow10), ("chaperon/words.bases", laid_chaperon_words_bases)], narrowed := true }
def OpersGroundUptoSaid : Prop := opersGroundUptoRow.holds Tryz.pinned (OpenSpec.upto opersGroundSpec)

end Rows
end Go.Proofs.YtcaailiijmjdlaaGreatDoor
