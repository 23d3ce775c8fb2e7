/- Lists of texts: is one there, are two the same, all of them written over; the document's reserved words and base types as lists. -/
import Derived.Test.YtcaailiijmjdlaaGreatDoorRes
import Derived.Test.YtcaailiijmjdlaaGreatDoorNam
import Derived.Deep.QuietTactic
import Derived.BigQuiet
import Derived.Handy
set_option linter.unusedSimpArgs false
set_option linter.unusedVariables false
namespace Go.Proofs.YtcaailiijmjdlaaGreatDoor
open Go.ChangeShapes Go.WideShapes Go.ChangeAt Go.RowKit

theorem basesR_c (w : World) : Calls Tryz.prog 100 #[] w fun e w' => ∃ v, e = .returned v ∧ Texts w w' v Wrd.bs := by
  have hk := Lib.hid (((Kept.refl w).alloc))
  go_enter Tryz.func100, Tryz.ntmps100
  go_wp2
  go_ret
  exact ⟨_, rfl, ⟨w.heap.size, 5, rfl, Nat.le_refl _, _, World.alloc_heap_new w _, rfl⟩, hk.out _⟩

theorem not_before {l : List ByteArray} {s : ByteArray} {k : Nat} (h : s ∉ l.take k) (hk : k < l.length) (hx : ¬ l[k] = s) : s ∉ l.take (k + 1) := by
  rw [List.take_succ_eq_append_getElem hk]
  simp only [List.mem_append, List.mem_singleton, not_or]
  exact ⟨h, fun e => hx e.symm⟩

set_option maxHeartbeats 1000000 in
theorem in_c (g c : Nat) (l : List ByteArray) (s : ByteArray) (w : World) (hl : l.length ≤ 9223372036854775807) (h : TxtAt w g l) :
    Calls Tryz.prog 137 #[.slice (some ⟨g, 0, none⟩) l.length c, .string s] w fun e w' => e = .returned (.bool (Wrd.has l s)) ∧ w = w' := by
  go_enter Tryz.func137, Tryz.ntmps137
  go_wp2
  go_loop [5] (fun i => ∃ k : Nat, k ≤ l.length ∧ i = .int .i64 k ∧ Hid (s ∉ l.take k)) (fun i => l.length - (intOf i).toNat)
  case atStart => exact ⟨0, by omega, rfl, Lib.hid (by simp)⟩
  case round =>
    obtain ⟨k, hk, rfl, he⟩ := hrel
    by_cases hlt : k < l.length
    · have hc := h.cell k hlt
      by_cases hx : l[k] = s
      · have HE := Lib.hid (Wrd.has_iff.2 (show s ∈ l by rw [← hx]; exact List.getElem_mem _))
        have hb : (l[k].toList == s.toList) = true := by rw [hx]; exact beq_self_eq_true _
        clear hx h
        generalize l[k] = x at *
        go_wp2
        go_ret
        exact ⟨by rw [HE.out]; rfl, rfl⟩
      · have HN := Lib.hid (not_before he.out hlt hx)
        have hb := beq_no hx
        clear hx h
        generalize l[k] = x at *
        go_wp2
        go_round
        case rel => exact ⟨k + 1, by omega, by go_num, HN⟩
        case measure => simp [intOf]; omega
    · obtain rfl : k = l.length := by omega
      have HE := Lib.hid (Wrd.has_no (show s ∉ l by have := he.out; rwa [List.take_length] at this))
      clear h
      go_wp2
      go_ret
      exact ⟨by rw [HE.out]; rfl, rfl⟩

theorem TxtAt.at {w : World} {g k : Nat} {l : List ByteArray} (h : TxtAt w g l) (hk : k < l.length) : ∃ v, w.cell? ⟨g, k, none⟩ = some v := ⟨_, h.cell k hk⟩

/-- A block of texts, whatever they are, of at least n. -/
def RowOf (w : World) (g n : Nat) : Prop := ∃ cur, w.heap[g]? = some (.cells cur 9 (0, 0)) ∧ n ≤ cur.size

theorem TxtAt.row {w : World} {g : Nat} {l : List ByteArray} (h : TxtAt w g l) : RowOf w g l.length := by
  obtain ⟨cur, h1, h2⟩ := h
  refine ⟨cur, h1, ?_⟩
  have h3 : (cur.toList.take l.length).length = l.length := by rw [h2]; simp
  rw [List.length_take] at h3
  have e : cur.toList.length = cur.size := Array.length_toList
  omega

theorem RowOf.cell {w : World} {g n k : Nat} (h : RowOf w g n) (hk : k < n) : ∃ v, w.cell? ⟨g, k, none⟩ = some v := by
  obtain ⟨cur, h1, h2⟩ := h
  exact ⟨cur[k]'(by omega), by rw [cell_of_row w g k cur _ _ h1]; exact Array.getElem?_eq_getElem (by omega)⟩

theorem RowOf.frozen {w : World} {g n k : Nat} (h : RowOf w g n) : w.frozen? ⟨g, k, none⟩ = false := by
  obtain ⟨cur, h1, h2⟩ := h
  exact (show Blk w g 9 cur from h1).frozen k

theorem RowOf.put {w : World} {g n k : Nat} (h : RowOf w g n) (u : Value) : RowOf (w.setCell ⟨g, k, none⟩ u) g n := by
  obtain ⟨cur, h1, h2⟩ := h
  exact ⟨_, (show Blk w g 9 cur from h1).put k u, by simpa using h2⟩

end Go.Proofs.YtcaailiijmjdlaaGreatDoor
