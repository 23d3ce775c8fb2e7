/- The contract of ints' iterator over a number's digits, from the last one on: whatever body a loop over it has. -/
import Derived.RangeFuncNested
import Derived.RangeFuncBound
import Derived.RangeFuncCalls
import Derived.RangeFuncLeaves
import Derived.RangeFuncBox
import Derived.Shelf.Abstract
import Derived.Shelf.RegionOpen
import Derived.WalkKit
import Derived.OwnWalkIn
import Derived.TacticsInMore
import Derived.LoopNIn
import Derived.LoopIn
import Derived.Maps.AppendAt
import Derived.WalkLawsBesides
import Derived.Test.YtcaailiijmjdlaaGreatDoorBlk
import Derived.Test.YtcaailiijmjdlaaGreatDoorDec
set_option linter.unusedSimpArgs false
set_option linter.unusedVariables false
namespace Go.Proofs.YtcaailiijmjdlaaGreatDoor
open Go.RowKit Go.Shelf
attribute [local go_sem] Oper.semAt_some

theorem split_digit (r : Int) : ∃ (m : Nat) (q : Int), m < 10 ∧ r.natAbs % 10 = m ∧ q.natAbs = r.natAbs / 10 ∧ r.tdiv 10 = q ∧ (r.tmod 10 = 0 ∧ m = 0 ∨ (1 ≤ m ∧ r.tmod 10 = (m : Int)) ∨ (1 ≤ m ∧ r.tmod 10 = -(m : Int))) := by
  rcases Int.natAbs_eq r with h | h
  · generalize r.natAbs = x at *; subst h
    refine ⟨x % 10, ((x / 10 : Nat) : Int), Nat.mod_lt _ (by decide), rfl, by omega, (Int.ofNat_tdiv x 10).symm, ?_⟩
    have e : ((x : Int)).tmod 10 = ((x % 10 : Nat) : Int) := (Int.ofNat_tmod x 10).symm
    rw [e]
    by_cases hx : x % 10 = 0
    · exact Or.inl ⟨by rw [hx]; rfl, hx⟩
    · exact Or.inr (Or.inl ⟨by omega, rfl⟩)
  · generalize r.natAbs = x at *; subst h
    refine ⟨x % 10, -((x / 10 : Nat) : Int), Nat.mod_lt _ (by decide), rfl, by omega, by rw [Int.neg_tdiv]; exact congrArg _ (Int.ofNat_tdiv x 10).symm, ?_⟩
    have e : (-(x : Int)).tmod 10 = -((x % 10 : Nat) : Int) := by rw [Int.neg_tmod]; exact congrArg _ (Int.ofNat_tmod x 10).symm
    rw [e]
    by_cases hx : x % 10 = 0
    · exact Or.inl ⟨by rw [hx]; rfl, hx⟩
    · exact Or.inr (Or.inr ⟨by omega, rfl⟩)

theorem next_digs {r q : Int} {m : Nat} (hm : r.natAbs % 10 = m) (hq : q.natAbs = r.natAbs / 10) (h0 : q ≠ 0) : Dec.digs r.natAbs = Dec.digs q.natAbs ++ [Dec.dgt m] := by
  rw [Dec.digs_ge (by omega), ← hq, hm]
theorem last_digs {r : Int} {m : Nat} (hm : r.natAbs % 10 = m) (hq : (0 : Int).natAbs = r.natAbs / 10) : Dec.digs r.natAbs = [Dec.dgt m] := by
  have : (0 : Int).natAbs = 0 := rfl
  rw [Dec.digs_lt (by omega), show r.natAbs = m from by omega]

set_option maxRecDepth 100000 in
set_option maxHeartbeats 1000000 in
theorem digits1_in (F : Fence) (n : Nat) (h6 : F.fn 121) (hro : F.round = none) (hn : 1 ≤ n) (l Bn n₀ : Nat) (z : Int) (hz1 : -9223372036854775808 ≤ z) (hz2 : z ≤ 9223372036854775807) (J Jx : List UInt8 → World → Prop)
    (hY : ∀ pre (x : UInt8) W, J pre W → pre.length < (Dec.digs z.natAbs).length → YieldAt F (n - 1) Tryz.prog l #[.int .u8 x.toNat] W fun e W' =>
      (e = .returned (.bool true) ∧ J (pre ++ [x]) W' ∧ Below n₀ W W') ∨ (e = .returned (.bool false) ∧ Jx (pre ++ [x]) W'))
    (W : World) (hBn : W.cell? ⟨Bn, 0, none⟩ = some (.int .i64 z)) (h0 : J [] W) :
    CallsIn F n Tryz.prog 121 #[.func (.yield l) #[] #[], .pointer (some ⟨Bn, 0, none⟩)] W fun e W' => (∃ v, e = .returned v) ∧
      ((∃ ys : List UInt8, ys.reverse = Dec.digs z.natAbs ∧ J ys W') ∨ (∃ pre : List UInt8, True ∧ Jx pre W')) := by
  refine callsIn_of_wp Tryz.func121 rfl h6 ?_ hro
  simp only [Tryz.ntmps121, List.size_toArray, List.length_cons, List.length_nil, Nat.reduceAdd, Nat.reduceSub, Array.replicate_succ, Array.replicate_zero, List.push_toArray, List.append_toArray, List.nil_append, List.cons_append]
  gi_wp2
  gi_loopw [3] (fun p wr => ∃ (pre : List UInt8) (r : Int), p = .int .i64 r ∧ -9223372036854775808 ≤ r ∧ r ≤ 9223372036854775807 ∧ Dec.digs z.natAbs = Dec.digs r.natAbs ++ pre.reverse ∧ J pre wr)
    (fun p wr => (intOf p).natAbs)
  case atStart =>
    exact ⟨[], z, rfl, hz1, hz2, by simp, h0⟩
  case round =>
    obtain ⟨pre, r, rfl, hr1, hr2, hd, hJ⟩ := hrel
    have hlen : pre.length < (Dec.digs z.natAbs).length := by
      have := List.length_pos_iff.2 (Dec.digs_ne r.natAbs)
      rw [hd]; simp; omega
    obtain ⟨m, q, hm, hrm, hqn, hq, hcase⟩ := split_digit r
    obtain ⟨fn, tmps, assign, body, hy, hR⟩ := hY pre (Dec.dgt m) wr hJ hlen
    have hlow : q.natAbs < r.natAbs ∨ q = 0 := by omega
    have hqb : -9223372036854775808 ≤ q ∧ q ≤ 9223372036854775807 := by omega
    have HQ := Lib.hid hqn
    have HM := Lib.hid hrm
    have HD := Lib.hid hd
    have HL := Lib.hid hlow
    rw [Dec.dgt_toNat hm] at hy
    clear hqn hrm hd hlow hlen hY h0 hJ
    by_cases hq0 : q = 0
    · subst hq0
      rcases hcase with ⟨ht, rfl⟩ | ⟨h1, ht⟩ | ⟨h1, ht⟩
      all_goals
        first | rw [show ((48 + 0 : Nat) : Int) = 48 from rfl] at hy | rw [show ((48 + m : Nat) : Int) = 48 + (m : Int) from Int.natCast_add 48 m] at hy
        gi_wp2
        refine hR.mono ?_
        rintro e W3 (⟨rfl, hJ3, hk3⟩ | ⟨rfl, hJx3⟩)
        · gi_wp2
          refine bodyPost_ret (results_none rfl _ _ _) rfl ?_
          exact ⟨⟨_, rfl⟩, .inl ⟨pre ++ [_], by rw [HD.out, last_digs HM.out HQ.out]; simp, hJ3⟩⟩
        · gi_wp2
          refine bodyPost_ret (results_none rfl _ _ _) rfl ?_
          exact ⟨⟨_, rfl⟩, .inr ⟨pre ++ [_], trivial, hJx3⟩⟩
    · have hqf : (q == 0) = false := by simpa using hq0
      have HN := Lib.hid hq0
      clear hq0
      rcases hcase with ⟨ht, rfl⟩ | ⟨h1, ht⟩ | ⟨h1, ht⟩
      all_goals
        first | rw [show ((48 + 0 : Nat) : Int) = 48 from rfl] at hy | rw [show ((48 + m : Nat) : Int) = 48 + (m : Int) from Int.natCast_add 48 m] at hy
        gi_wp2
        refine hR.mono ?_
        rintro e W3 (⟨rfl, hJ3, hk3⟩ | ⟨rfl, hJx3⟩)
        · gi_wp2
          go_roundw
          case rel => exact ⟨pre ++ [_], q, rfl, by omega, by omega, by rw [HD.out, next_digs HM.out HQ.out HN.out]; simp, hJ3⟩
          case measure =>
            rcases HL.out with h | h
            · simpa [intOf] using h
            · exact absurd h HN.out
        · gi_wp2
          refine bodyPost_ret (results_none rfl _ _ _) rfl ?_
          exact ⟨⟨_, rfl⟩, .inr ⟨pre ++ [_], trivial, hJx3⟩⟩

theorem digits_in (F : Fence) (n : Nat) (h5 : F.fn 73) (hro : F.round = none) (z : Int) (w : World) :
    CallsIn F n Tryz.prog 73 #[.int .i64 z] w fun e w' => e = .returned (.func (.func 121) #[] #[.pointer (some ⟨w.heap.size, 0, none⟩)]) ∧ w' = w.alloc (.cells #[.int .i64 z] 3) := by
  refine callsIn_of_wp Tryz.func73 rfl h5 ?_ hro
  simp only [Tryz.ntmps73, List.size_toArray, List.length_cons, List.length_nil, Nat.reduceAdd, Nat.reduceSub, Array.replicate_succ, Array.replicate_zero, List.push_toArray, List.append_toArray, List.nil_append, List.cons_append]
  gi_wp2
  go_ret
  exact ⟨rfl, rfl⟩

theorem digits_stops (F : Fence) (n : Nat) (h6 : F.fn 121) (hro : F.round = none) (hn : 1 ≤ n) (Bn n₀ : Nat) (z : Int) (hz1 : -9223372036854775808 ≤ z) (hz2 : z ≤ 9223372036854775807) (w : World) (hBn : Bn < w.heap.size)
    (hc : w.cell? ⟨Bn, 0, none⟩ = some (.int .i64 z)) :
    SeqStopsK F n Tryz.prog 121 #[.pointer (some ⟨Bn, 0, none⟩)] (fun x : UInt8 => #[Value.int .u8 x.toNat]) (Below n₀) (fun ys => ys.reverse = Dec.digs z.natAbs) (fun _ => True) (Dec.digs z.natAbs).length w := fun l J Jx W hW _ _ hY h0 =>
  digits1_in F n h6 hro hn l Bn n₀ z hz1 hz2 J Jx hY W ((hW.cell (p := ⟨Bn, 0, none⟩) hBn).trans hc) h0

end Go.Proofs.YtcaailiijmjdlaaGreatDoor
