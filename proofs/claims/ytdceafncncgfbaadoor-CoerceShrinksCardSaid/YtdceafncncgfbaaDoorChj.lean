/- The iterator over a chain's places, there or back, whatever body a loop over it has. -/
import Derived.Test.YtdceafncncgfbaaDoorChi
import Derived.Shelf.RegionOpen
import Derived.OwnWalkIn
import Derived.TacticsInMore
import Derived.LoopNIn
import Derived.LoopIn
import Derived.WalkLawsBesides
set_option linter.unusedSimpArgs false
set_option linter.unusedVariables false
set_option maxRecDepth 100000
namespace Go.Proofs.YtdceafncncgfbaaDoor
open Go.RowKit Go.Shelf
attribute [local go_sem] Oper.semAt_some

/-- The place of a step. -/
def atV (n : Nat) (back : Bool) (i : Nat) : Nat := if back = true then n - 1 - i else i
/-- The places of the first steps. -/
def wayV (n : Nat) (back : Bool) (k : Nat) : List Nat := (List.range k).map (atV n back)
theorem way_len (n : Nat) (back : Bool) (k : Nat) : (wayV n back k).length = k := by simp [wayV]
theorem way_next (n : Nat) (back : Bool) (k : Nat) : wayV n back k ++ [atV n back k] = wayV n back (k + 1) := by simp [wayV, List.range_succ]
theorem way_pre (n : Nat) (back : Bool) {k m : Nat} (h : k ≤ m) : wayV n back k <+: wayV n back m := by
  obtain ⟨d, rfl⟩ : ∃ d, m = k + d := ⟨m - k, by omega⟩
  refine ⟨(List.range' k d).map (atV n back), ?_⟩
  unfold wayV
  have h2 := List.range'_append_1 (s := 0) (m := k) (n := d)
  rw [Nat.zero_add] at h2
  rw [← List.map_append, List.range_eq_range', List.range_eq_range', h2]
theorem at_lt {n : Nat} {back : Bool} {k : Nat} (h : k < n) : atV n back k < n := by unfold atV; split <;> omega

theorem along_c (n : Nat) (back : Bool) (w : World) :
    Calls Tryd.prog 77 #[.int .i64 n, .bool back] w fun e w' => e = .returned (.func (.func 89) #[] #[.pointer (some ⟨w.heap.size, 0, none⟩), .pointer (some ⟨w.heap.size + 1, 0, none⟩)]) ∧
      w' = (w.alloc (.cells #[.int .i64 n] 3)).alloc (.cells #[.bool back] 4) := by
  go_enter Tryd.func77, Tryd.ntmps77
  go_wp2_with fail
  go_ret
  exact ⟨rfl, rfl⟩

set_option maxHeartbeats 4000000 in
theorem along1_own (n0 : Nat) (hn0 : 1 ≤ n0) (n : Nat) (back : Bool) (b1 b2 : Nat) (U : Nat → Prop) (W1 : World) (hn : n ≤ 100000)
    (h1 : Blk W1 b1 3 #[.int .i64 n]) (h2 : Blk W1 b2 4 #[.bool back]) (h3 : b1 + 1 < W1.heap.size) (h4 : b2 + 1 < W1.heap.size) (hU : ∀ k, U k → k ≠ b1 ∧ k ≠ b2) :
    SeqOwn Fence.wide n0 Tryd.prog 89 #[.pointer (some ⟨b1, 0, none⟩), .pointer (some ⟨b2, 0, none⟩)] (fun i : Nat => #[.int .i64 (i : Int)]) (fun _ => False) U (· = wayV n back n) (· <+: wayV n back n) (· <+: wayV n back n) 0 W1 := by
  intro l J Jx hl abJ abX hY h0
  have c0 := h1.cell 0
  simp at c0
  refine callsIn_of_wp Tryd.func89 rfl trivial ?_ rfl
  simp only [Tryd.ntmps89, List.size_toArray, List.length_cons, List.length_nil, Nat.reduceAdd, Nat.reduceSub, Array.replicate_succ, Array.replicate_zero, List.push_toArray, List.append_toArray, List.nil_append, List.cons_append]
  gi_wp2
  clear c0
  gi_loopw [7] (fun i wr => ∃ m : Nat, i = .int .i64 m ∧ m ≤ n ∧ J (wayV n back m) wr ∧ Blk wr b1 3 #[.int .i64 n] ∧ Blk wr b2 4 #[.bool back] ∧ W1.heap.size ≤ wr.heap.size) (fun i wr => n - (intOf i).toNat)
  case atStart => exact ⟨0, by go_num, Nat.zero_le _, h0, h1, h2, Nat.le_refl _⟩
  case round =>
    obtain ⟨m, rfl, hm, hJ, hb1, hb2, hsz⟩ := hrel
    have c0 := hb1.cell 0
    have c1 := hb2.cell 0
    simp at c0 c1
    by_cases hlt : m < n
    · have hltI : (m : Int) < (n : Int) := by omega
      obtain ⟨fn, tmps, assign, body, hy, hR⟩ := hY (wayV n back m) (atV n back m) wr hJ (by rw [way_next]; exact way_pre n back hlt) (by omega)
      have HN := Lib.hid (way_next n back m)
      have HB1 := Lib.hid hb1
      have HB2 := Lib.hid hb2
      have HP := Lib.hid (way_pre n back (show m + 1 ≤ n from hlt))
      have hw1 : wrap64 ((n : Int) - 1) = (n : Int) - 1 := by unfold wrap64; omega
      have hw2 : wrap64 ((n : Int) - 1 - (m : Int)) = (n : Int) - 1 - (m : Int) := by unfold wrap64; omega
      cases back with
      | false =>
        rw [show atV n false m = m from rfl] at hy
        clear hJ h0 hY hb1 hb2 h1 h2
        gi_wp2
        refine hR.mono ?_
        rintro e W3 (⟨rfl, hJ3, hk3⟩ | ⟨rfl, hJx3⟩)
        · have HJ := Lib.hid hJ3
          have HK := Lib.hid hk3
          clear hJ3 hk3
          gi_wp2
          go_roundw
          case rel => exact ⟨m + 1, by go_num, by omega, by rw [← HN.out]; exact HJ.out, HB1.out.only HK.out (fun h => h.elim (fun h => (hU _ h).1 rfl) (by omega)), HB2.out.only HK.out (fun h => h.elim (fun h => (hU _ h).2 rfl) (by omega)), by have := HK.out.size; omega⟩
          case measure => simp [intOf]; omega
        · gi_wp2
          refine bodyPost_ret (results_none rfl _ _ _) rfl ?_
          exact ⟨⟨_, rfl⟩, .inr ⟨_, by rw [HN.out]; exact HP.out, hJx3⟩⟩
      | true =>
        rw [show ((atV n true m : Nat) : Int) = (n : Int) - 1 - (m : Int) by unfold atV; simp; omega] at hy
        clear hJ h0 hY hb1 hb2 h1 h2
        gi_wp2
        refine hR.mono ?_
        rintro e W3 (⟨rfl, hJ3, hk3⟩ | ⟨rfl, hJx3⟩)
        · have HJ := Lib.hid hJ3
          have HK := Lib.hid hk3
          clear hJ3 hk3
          gi_wp2
          go_roundw
          case rel => exact ⟨m + 1, by go_num, by omega, by rw [← HN.out]; exact HJ.out, HB1.out.only HK.out (fun h => h.elim (fun h => (hU _ h).1 rfl) (by omega)), HB2.out.only HK.out (fun h => h.elim (fun h => (hU _ h).2 rfl) (by omega)), by have := HK.out.size; omega⟩
          case measure => simp [intOf]; omega
        · gi_wp2
          refine bodyPost_ret (results_none rfl _ _ _) rfl ?_
          exact ⟨⟨_, rfl⟩, .inr ⟨_, by rw [HN.out]; exact HP.out, hJx3⟩⟩
    · obtain rfl : m = n := by omega
      have HJ := Lib.hid hJ
      clear hJ h0 hY hb1 hb2 h1 h2
      gi_wp2
      refine bodyPost_end (results_none rfl _ _ _) rfl ?_
      exact ⟨⟨_, rfl⟩, .inl ⟨_, rfl, HJ.out⟩⟩

end Go.Proofs.YtdceafncncgfbaaDoor
