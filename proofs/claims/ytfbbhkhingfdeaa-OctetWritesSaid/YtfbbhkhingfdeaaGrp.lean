/- The contract of octet's iterator over a number's groups: whatever body a loop over it has. -/
import Derived.RangeFuncNested
import Derived.RangeFuncBound
import Derived.RangeFuncCalls
import Derived.RangeFuncLeaves
import Derived.RangeFuncBox
import Derived.Shelf.Abstract
import Derived.Shelf.RegionOpen
import Derived.WalkKit
import Derived.OwnWalkIn
import Derived.TacticsInMore
import Derived.LoopNIn
import Derived.LoopIn
import Derived.Maps.AppendAt
import Derived.WalkLawsBesides
import Derived.Test.YtfbbhkhingfdeaaApp
import Derived.Test.YtfbbhkhingfdeaaOct
import Derived.Test.YtfbbhkhingfdeaaRgn
set_option linter.unusedSimpArgs false
set_option linter.unusedVariables false
namespace Go.Proofs.Ytfbbhkhingfdeaa
open Go.RowKit Go.Shelf
attribute [local go_sem] Oper.semAt_some

set_option maxRecDepth 100000 in
set_option maxHeartbeats 1000000 in
theorem groups1_in (F : Fence) (n : Nat) (h6 : F.fn 50) (hro : F.round = none) (hn : 1 ≤ n) (l Bn : Nat) (z : Nat) (hz2 : z < 9223372036854775808) (J Jx : List UInt8 → World → Prop)
    (hY : ∀ pre (x : UInt8) W, J pre W → pre.length < (Oct.grp z).length → YieldAt F (n - 1) Try.prog l #[.int .u8 x.toNat] W fun e W' =>
      (e = .returned (.bool true) ∧ J (pre ++ [x]) W' ∧ True) ∨ (e = .returned (.bool false) ∧ Jx (pre ++ [x]) W'))
    (W : World) (hBn : W.cell? ⟨Bn, 0, none⟩ = some (.int .i64 z)) (h0 : J [] W) :
    CallsIn F n Try.prog 50 #[.func (.yield l) #[] #[], .pointer (some ⟨Bn, 0, none⟩)] W fun e W' => (∃ v, e = .returned v) ∧
      ((∃ ys : List UInt8, ys = Oct.grp z ∧ J ys W') ∨ (∃ pre : List UInt8, True ∧ Jx pre W')) := by
  refine callsIn_of_wp Try.func50 rfl h6 ?_ hro
  simp only [Try.ntmps50, List.size_toArray, List.length_cons, List.length_nil, Nat.reduceAdd, Nat.reduceSub, Array.replicate_succ, Array.replicate_zero, List.push_toArray, List.append_toArray, List.nil_append, List.cons_append]
  gi_wp2
  gi_loopw [3] (fun p wr => ∃ (pre : List UInt8) (r : Nat), p = .int .i64 r ∧ r < 9223372036854775808 ∧ Oct.grp z = pre ++ Oct.grp r ∧ J pre wr)
    (fun p wr => (intOf p).toNat)
  case atStart =>
    exact ⟨[], z, rfl, hz2, rfl, h0⟩
  case round =>
    obtain ⟨pre, r, rfl, hr, hd, hJ⟩ := hrel
    have hlen : pre.length < (Oct.grp z).length := by
      have := Oct.grp_pos r
      rw [hd]; simp; omega
    have hrI : (r : Int) ≤ 9223372036854775807 := by omega
    by_cases hlt : r < 128
    · have hx := Oct.ofNat_toNat (show r < 256 by omega)
      obtain ⟨fn, tmps, assign, body, hy, hR⟩ := hY pre (UInt8.ofNat r) wr hJ hlen
      rw [hx] at hy
      rw [Oct.grp_lt hlt] at hd
      have HD := Lib.hid hd
      have hltI : (r : Int) < 128 := by omega
      clear hd hlen hY h0 hJ hx hlt hr
      gi_wp2
      refine hR.mono ?_
      rintro e W3 (⟨rfl, hJ3, _⟩ | ⟨rfl, hJx3⟩)
      · gi_wp2
        refine bodyPost_end (results_none rfl _ _ _) rfl ?_
        exact ⟨⟨_, rfl⟩, .inl ⟨_, HD.out.symm, hJ3⟩⟩
      · gi_wp2
        refine bodyPost_end (results_none rfl _ _ _) rfl ?_
        exact ⟨⟨_, rfl⟩, .inr ⟨pre ++ [_], trivial, hJx3⟩⟩
    · have hx := Oct.ofNat_toNat (show 128 + r % 128 < 256 by omega)
      obtain ⟨fn, tmps, assign, body, hy, hR⟩ := hY pre (UInt8.ofNat (128 + r % 128)) wr hJ hlen
      rw [hx, show ((128 + r % 128 : Nat) : Int) = 128 + (r : Int) % 128 from by omega] at hy
      rw [Oct.grp_ge hlt] at hd
      have HD := Lib.hid hd
      have hltI : 128 ≤ (r : Int) := by omega
      have hdiv := Lib.hid (show (r : Int) / 128 = ((r / 128 : Nat) : Int) by omega)
      have hlow : r / 128 < r := by omega
      clear hd hlen hY h0 hJ hx hlt hr
      gi_wp2
      refine hR.mono ?_
      rintro e W3 (⟨rfl, hJ3, _⟩ | ⟨rfl, hJx3⟩)
      · gi_wp2
        go_roundw
        case rel => exact ⟨pre ++ [_], r / 128, congrArg (Value.int .i64) hdiv.out, by omega, by rw [HD.out]; simp, hJ3⟩
        case measure => simp [intOf]; omega
      · gi_wp2
        refine bodyPost_ret (results_none rfl _ _ _) rfl ?_
        exact ⟨⟨_, rfl⟩, .inr ⟨pre ++ [_], trivial, hJx3⟩⟩

theorem groups_in (F : Fence) (n : Nat) (h5 : F.fn 49) (hro : F.round = none) (z : Int) (w : World) :
    CallsIn F n Try.prog 49 #[.int .i64 z] w fun e w' => e = .returned (.func (.func 50) #[] #[.pointer (some ⟨w.heap.size, 0, none⟩)]) ∧ w' = w.alloc (.cells #[.int .i64 z] 3) := by
  refine callsIn_of_wp Try.func49 rfl h5 ?_ hro
  simp only [Try.ntmps49, List.size_toArray, List.length_cons, List.length_nil, Nat.reduceAdd, Nat.reduceSub, Array.replicate_succ, Array.replicate_zero, List.push_toArray, List.append_toArray, List.nil_append, List.cons_append]
  gi_wp2
  go_ret
  exact ⟨rfl, rfl⟩

theorem groups_stops (F : Fence) (n : Nat) (h6 : F.fn 50) (hro : F.round = none) (hn : 1 ≤ n) (Bn : Nat) (z : Nat) (hz2 : z < 9223372036854775808) (w : World) (hBn : Bn < w.heap.size)
    (hc : w.cell? ⟨Bn, 0, none⟩ = some (.int .i64 z)) :
    SeqStopsK F n Try.prog 50 #[.pointer (some ⟨Bn, 0, none⟩)] (fun x : UInt8 => #[Value.int .u8 x.toNat]) (fun _ _ => True) (fun ys => ys = Oct.grp z) (fun _ => True) (Oct.grp z).length w := fun l J Jx W hW _ _ hY h0 =>
  groups1_in F n h6 hro hn l Bn z hz2 J Jx hY W ((hW.cell (p := ⟨Bn, 0, none⟩) hBn).trans hc) h0

end Go.Proofs.Ytfbbhkhingfdeaa
