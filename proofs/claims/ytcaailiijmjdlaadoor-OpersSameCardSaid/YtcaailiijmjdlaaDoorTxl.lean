/- Lists of texts: is one there, are two the same, all of them written over; the document's reserved words and base types as lists. -/
import Derived.Test.YtcaailiijmjdlaaDoorRes
import Derived.Test.YtcaailiijmjdlaaDoorNam
import Derived.Deep.QuietTactic
import Derived.BigQuiet
import Derived.Handy
set_option linter.unusedSimpArgs false
set_option linter.unusedVariables false
namespace Go.Proofs.YtcaailiijmjdlaaDoor
open Go.ChangeShapes Go.WideShapes Go.ChangeAt Go.RowKit

theorem not_before {l : List ByteArray} {s : ByteArray} {k : Nat} (h : s ∉ l.take k) (hk : k < l.length) (hx : ¬ l[k] = s) : s ∉ l.take (k + 1) := by
  rw [List.take_succ_eq_append_getElem hk]
  simp only [List.mem_append, List.mem_singleton, not_or]
  exact ⟨h, fun e => hx e.symm⟩

theorem TxtAt.at {w : World} {g k : Nat} {l : List ByteArray} (h : TxtAt w g l) (hk : k < l.length) : ∃ v, w.cell? ⟨g, k, none⟩ = some v := ⟨_, h.cell k hk⟩

/-- A block of texts, whatever they are, of at least n. -/
def RowOf (w : World) (g n : Nat) : Prop := ∃ cur, w.heap[g]? = some (.cells cur 9 (0, 0)) ∧ n ≤ cur.size

theorem TxtAt.row {w : World} {g : Nat} {l : List ByteArray} (h : TxtAt w g l) : RowOf w g l.length := by
  obtain ⟨cur, h1, h2⟩ := h
  refine ⟨cur, h1, ?_⟩
  have h3 : (cur.toList.take l.length).length = l.length := by rw [h2]; simp
  rw [List.length_take] at h3
  have e : cur.toList.length = cur.size := Array.length_toList
  omega

theorem RowOf.cell {w : World} {g n k : Nat} (h : RowOf w g n) (hk : k < n) : ∃ v, w.cell? ⟨g, k, none⟩ = some v := by
  obtain ⟨cur, h1, h2⟩ := h
  exact ⟨cur[k]'(by omega), by rw [cell_of_row w g k cur _ _ h1]; exact Array.getElem?_eq_getElem (by omega)⟩

theorem RowOf.frozen {w : World} {g n k : Nat} (h : RowOf w g n) : w.frozen? ⟨g, k, none⟩ = false := by
  obtain ⟨cur, h1, h2⟩ := h
  exact (show Blk w g 9 cur from h1).frozen k

theorem RowOf.put {w : World} {g n k : Nat} (h : RowOf w g n) (u : Value) : RowOf (w.setCell ⟨g, k, none⟩ u) g n := by
  obtain ⟨cur, h1, h2⟩ := h
  exact ⟨_, (show Blk w g 9 cur from h1).put k u, by simpa using h2⟩

end Go.Proofs.YtcaailiijmjdlaaDoor
