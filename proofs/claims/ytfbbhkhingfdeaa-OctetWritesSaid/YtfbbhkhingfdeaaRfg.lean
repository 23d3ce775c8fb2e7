/- The contract of the answer's groups: a number's bytes, as new memory. -/
import Derived.Test.YtfbbhkhingfdeaaHlp
import Derived.Test.YtfbbhkhingfdeaaOct
set_option linter.unusedSimpArgs false
set_option linter.unusedVariables false
namespace Go.Proofs.Ytfbbhkhingfdeaa
open Go.ChangeShapes Go.WideShapes Go.ChangeAt Go.RowKit

/-- One byte more, of a new row of one. -/
theorem newRow_one {w W w1 : World} {v v1 : Value} {bs : List UInt8} {x : UInt8} (h1 : Row W v bs) (h2 : Kept w W) (h3 : ∀ g, v.ownBlock = some g → w.heap.size ≤ g)
    (hr : Row w1 v1 (bs ++ [x])) (hg : (W.alloc (.cells #[encB x] 5)).grownBy w1 v.ownBlock) (hl : v1.ownBlock = v.ownBlock ∨ v1.ownBlock = some (W.alloc (.cells #[encB x] 5)).heap.size) : NewRow (bs ++ [x]) w v1 w1 := by
  refine ⟨hr, ?_, ?_⟩
  · exact (((Only.of_kept h2 (S := fun _ => False)).alloc _).grown hg fun k e => .inr (h3 k e)).kept fun _ _ h => h
  · intro g e
    rcases hl with h | h
    · rw [h] at e; exact h3 g e
    · rw [h] at e; cases e; have := h2.size; simp; omega

theorem yields_one (W : World) (x : UInt8) : Yields (W.alloc (.cells #[encB x] 5)) 36 (.slice (some ⟨W.heap.size, 0, none⟩) 1 1) [x] :=
  Yields.ofCells _ ⟨W.heap.size, 0, none⟩ 1 [x] (cell_one_new W (encB x) 5)

set_option maxRecDepth 100000 in
set_option maxHeartbeats 1600000 in
theorem refGroups_c (n : Nat) (w : World) (hn : n < 18446744073709551616) :
    Calls Try.prog 35 #[.int .u64 n] w (CopyPost (Oct.grp n) w) := by
  have hlen : (Oct.grp n).length ≤ 10 := Oct.grp_len 9 n (Nat.lt_trans hn (by decide +kernel))
  go_enter Try.func35, Try.ntmps35
  go_wp2_with fail
  go_loopw [0, 3] (fun s0 s3 wr => ∃ (pre : List UInt8) (r : Nat) (v : Value), s0 = .int .u64 r ∧ v = s3 ∧ r < 18446744073709551616 ∧ Oct.grp n = pre ++ Oct.grp r ∧ NewRow pre w v wr) (fun s0 _ _ => (intOf s0).toNat)
  case atStart => exact ⟨[], n, _, rfl, rfl, hn, rfl, Row.nil w, Kept.refl w, fun g h => by cases h⟩
  case round =>
    obtain ⟨pre, r, v, rfl, rfl, hr, hd, h1, h2, h3⟩ := hrel
    have hpl : pre.length < 10 := by
      have := Oct.grp_pos r
      rw [hd, List.length_append] at hlen
      omega
    have HL := Lib.hid (fun x : UInt8 => show pre.length + [x].length ≤ 70368744177664 by simp; omega)
    have H1 := Lib.hid h1
    have H2 := Lib.hid h2
    have H3 := Lib.hid h3
    have HH := Lib.hid (fun (x : UInt8) v1 w1 a1 a2 a3 => newRow_one (x := x) (v1 := v1) (w1 := w1) h1 h2 h3 a1 a2 a3)
    clear h1 h2 h3 hn hlen hpl
    by_cases hlt : r < 128
    · have hltI : ¬ 128 ≤ (r : Int) := by omega
      rw [Oct.grp_lt hlt] at hd
      have HD := Lib.hid hd
      have hx := Oct.ofNat_toNat (show r < 256 by omega)
      clear hd hlt
      have HY := Lib.hid (yields_one wr (UInt8.ofNat r))
      have HA := Lib.hid (World.ownsRow.alloc (w := wr) H1.out (.cells #[encB (UInt8.ofNat r)] 5))
      have HH := Lib.hid (HH.out (UInt8.ofNat r))
      unfold encB at HY HA HH
      rw [hx] at HY HA HH
      clear hx
      go_wp2_with (at_builtin; refine wpList_app rfl (.tmp 15) (.tmp 18) 36 rfl rfl HA.out rfl HY.out (HL.out _) ?_; intro v1 w1 a1 a2 a3; have HP := Lib.hid (HH.out _ _ a1 a2 a3); clear a1 a2 a3)
      go_ret
      exact ⟨_, rfl, by rw [HD.out]; exact HP.out⟩
    · have hltI : 128 ≤ (r : Int) := by omega
      rw [Oct.grp_ge hlt] at hd
      have HD := Lib.hid hd
      have hx := Oct.ofNat_toNat (show 128 + r % 128 < 256 by omega)
      have hdiv := Lib.hid (show (r : Int) / 128 = ((r / 128 : Nat) : Int) by omega)
      have hlow := Lib.hid (show r / 128 < r ∧ r / 128 < 18446744073709551616 by omega)
      clear hd hlt
      have HY := Lib.hid (yields_one wr (UInt8.ofNat (128 + r % 128)))
      have HA := Lib.hid (World.ownsRow.alloc (w := wr) H1.out (.cells #[encB (UInt8.ofNat (128 + r % 128))] 5))
      have HH := Lib.hid (HH.out (UInt8.ofNat (128 + r % 128)))
      unfold encB at HY HA HH
      rw [hx, show ((128 + r % 128 : Nat) : Int) = (r : Int) % 128 + 128 from by omega] at HY HA HH
      clear hx
      go_wp2_with (at_builtin; trace_state; refine wpList_app rfl (.tmp 6) (.tmp 11) 36 rfl rfl HA.out rfl HY.out (HL.out _) ?_; intro v1 w1 a1 a2 a3; have HP := Lib.hid (HH.out _ _ a1 a2 a3); clear a1 a2 a3)
      go_roundw
      case rel => exact ⟨pre ++ [_], r / 128, _, congrArg (Value.int .u64) hdiv.out, rfl, hlow.out.2, by rw [HD.out]; simp, HP.out⟩
      case measure => simp [intOf]; omega
end Go.Proofs.Ytfbbhkhingfdeaa
