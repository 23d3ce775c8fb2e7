/- Merge, Add, Seen, Bound; the statements' helpers: out, in, norms. -/
import Derived.Test.YtdceafncncgfbaaDoorChn
set_option linter.unusedSimpArgs false
set_option linter.unusedVariables false
set_option maxRecDepth 100000
namespace Go.Proofs.YtdceafncncgfbaaDoor
open Go.ChangeShapes Go.WideShapes Go.ChangeAt Go.RowKit

/-- What tells a chain of one's own. -/
def OwnL (w : World) (l : List Ly) (e : Ending) (w' : World) : Prop :=
  (∃ a c, e = .returned (.slice a l.length c) ∧ w'.ownsRow w.heap.size 35 3 (.slice a l.length c) l.length (l.flatMap lCells)) ∧ Kept w w'

theorem fine_app {l m : List Ly} (h : ∀ x ∈ l, x.cls.size ≤ maxLen) (g : ∀ x ∈ m, x.cls.size ≤ maxLen) : ∀ x ∈ l ++ m, x.cls.size ≤ maxLen := fun x hx => (List.mem_append.1 hx).elim (h x) (g x)
theorem fine_norm {l : List Ly} (h : ∀ x ∈ l, x.cls.size ≤ maxLen) : ∀ x ∈ Chn.norm ky l, x.cls.size ≤ maxLen := fun x hx => h x (Chn.pick_mem hx)
theorem norm_le (l : List Ly) : (Chn.norm ky l).length ≤ l.length := Chn.pick_len_le

def seenV (own : ByteArray) (l : List Ly) : ByteArray := match l.getLast? with
  | none => own
  | some x => x.cls

end Go.Proofs.YtdceafncncgfbaaDoor
