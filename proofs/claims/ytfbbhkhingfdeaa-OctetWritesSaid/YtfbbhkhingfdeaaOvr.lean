/- The contract of OverBytes: nothing but the bytes handed in has turned. -/
import Derived.Test.YtfbbhkhingfdeaaRfw
set_option linter.unusedSimpArgs false
set_option linter.unusedVariables false
namespace Go.Proofs.Ytfbbhkhingfdeaa
open Go.ChangeShapes Go.WideShapes Go.ChangeAt Go.RowKit

/-- A block of bytes. -/
def Raw (w : World) (g n : Nat) : Prop := ∃ cur : Array Value, Blk w g 5 cur ∧ n ≤ cur.size ∧ ∀ j, j < n → ∃ z : Int, cur[j]? = some (.int .u8 z)

theorem Row.raw {w : World} {g c : Nat} {bs : List UInt8} (h : Row w (.slice (some ⟨g, 0, none⟩) bs.length c) bs) : Raw w g bs.length := by
  have hc := World.ownsRow.cells h (g := g) rfl
  rcases id h.2 with ⟨e, _⟩ | ⟨g', cap, cur, e, _, hh, hle, _, hsz, _⟩
  · cases e
  · cases e
    refine ⟨cur, hh, by omega, fun j hj => ⟨bs[j].toNat, ?_⟩⟩
    have := hc j (.int .u8 bs[j].toNat) (by rw [List.getElem?_map, List.getElem?_eq_getElem hj]; rfl)
    rw [← Blk.cell (w := w) (t := 5) hh j]
    simpa [Addr.add_lit] using this

theorem Raw.put {w : World} {g n : Nat} (h : Raw w g n) (k : Nat) (z : Int) : Raw (w.setCell ⟨g, k, none⟩ (.int .u8 z)) g n := by
  obtain ⟨cur, h1, h2, h3⟩ := h
  refine ⟨_, h1.put k (.int .u8 z), by simpa using h2, fun j hj => ?_⟩
  by_cases e : k = j
  · subst e
    exact ⟨z, by rw [Array.getElem?_setIfInBounds]; simp; omega⟩
  · obtain ⟨y, hy⟩ := h3 j hj
    exact ⟨y, by rw [Array.getElem?_setIfInBounds]; simp [e, hy]⟩

set_option maxHeartbeats 800000 in
theorem over_c (v : Value) (bs : List UInt8) (w : World) (h : Row w v bs) :
    Calls Try.prog 21 #[v] w fun e w' => (∃ r, e = .returned r) ∧ Only (fun g => v.ownBlock = some g) w w' := by
  have hle := h.len.2
  unfold maxLen at hle
  rcases id h.2 with ⟨rfl, h0⟩ | ⟨g, cap, cur, rfl, _, hh, hn, hcm, _, _⟩
  · obtain rfl : bs = [] := List.eq_nil_of_length_eq_zero h0
    clear h h0
    go_enter Try.func21, Try.ntmps21
    go_wp2_with fail
    go_loop [2] (fun s2 => s2 = .int .i64 0) (fun s2 => 0)
    case atStart => rfl
    case round =>
      obtain rfl := hrel
      go_wp2
      refine bodyPost_end (results_none rfl _ _ _) rfl ?_
      exact ⟨⟨_, rfl⟩, Only.refl _ _⟩
  · have hraw := h.raw
    generalize hnn : bs.length = n at *
    clear h hh
    unfold maxLen at hcm
    go_enter Try.func21, Try.ntmps21
    go_wp2_with fail
    go_loopw [2] (fun s2 wr => ∃ k : Nat, s2 = .int .i64 k ∧ k ≤ n ∧ Raw wr g n ∧ Only (fun j => Value.ownBlock (.slice (some ⟨g, 0, none⟩) n cap) = some j) w wr) (fun s2 _ => n - (intOf s2).toNat)
    case atStart => exact ⟨0, rfl, by omega, hraw, Only.refl _ _⟩
    case round =>
      obtain ⟨k, rfl, hk, hR, hO⟩ := hrel
      by_cases hkn : k < n
      · have hkI : (k : Int) < (n : Int) := by omega
        have hR' := hR
        obtain ⟨cur, b1, b2, b3⟩ := hR'
        obtain ⟨z, hz⟩ := b3 k hkn
        have c0 := b1.cell k
        rw [hz] at c0
        have f0 := b1.frozen k
        have HN := Lib.hid (fun z => And.intro (hR.put k z) (hO.setCell (p := ⟨g, k, none⟩) (.inl rfl) (.int .u8 z)))
        clear b1 b2 b3 hz hR hO
        go_wp2
        go_roundw
        case rel => exact ⟨k + 1, by go_num, by omega, HN.out _⟩
        case measure => simp [intOf]; omega
      · have hkI : ¬ (k : Int) < (n : Int) := by omega
        have HO := Lib.hid hO
        clear hR hO
        go_wp2
        refine bodyPost_end (results_none rfl _ _ _) rfl ?_
        exact ⟨⟨_, rfl⟩, HO.out⟩
end Go.Proofs.Ytfbbhkhingfdeaa
