/- The iterator over layers, there or back; a yield that panics ends it. -/
import Derived.Test.YtdceafncncgfbaaDoorCtg
import Derived.Test.YtdceafncncgfbaaDoorRgp
import Derived.Test.YtdceafncncgfbaaDoorChj
set_option linter.unusedSimpArgs false
set_option linter.unusedVariables false
set_option maxRecDepth 100000
namespace Go.Proofs.YtdceafncncgfbaaDoor
open Go.RowKit Go.Shelf
attribute [local go_sem] Oper.semAt_some

theorem calong_c (la : Option Addr) (ln lc : Nat) (back : Bool) (w : World) :
    Calls Tryd.prog 62 #[.slice la ln lc, .bool back] w fun e w' => e = .returned (.func (.func 73) #[] #[.pointer (some ⟨w.heap.size, 0, none⟩), .pointer (some ⟨w.heap.size + 1, 0, none⟩)]) ∧
      w' = (w.alloc (.cells #[.slice la ln lc] 25)).alloc (.cells #[.bool back] 4) := by
  go_enter Tryd.func62, Tryd.ntmps62
  go_wp2_with fail
  go_ret
  exact ⟨rfl, rfl⟩

def wayY (back : Bool) (l : List Ly) : List Ly := if back = true then l.reverse else l
theorem wayY_len (back : Bool) (l : List Ly) : (wayY back l).length = l.length := by unfold wayY; split <;> simp
theorem wayY_at {back : Bool} {l : List Ly} {i : Nat} (h : i < l.length) : (wayY back l)[i]? = l[atV l.length back i]? := by
  unfold wayY atV
  cases back with
  | true => simp [List.getElem?_reverse h]
  | false => simp
abbrev lyV (y : Ly) : Value := .agg #[.bool y.out, .string y.cls, .int .i64 y.lab]
def AlInv (b1 b2 : Nat) (back : Bool) (la : Option Addr) (lc : Nat) (l : List Ly) (W : World) : Prop := Blk W b1 25 #[.slice la l.length lc] ∧ Blk W b2 4 #[.bool back] ∧ LysAt W (.slice la l.length lc) l

theorem lys_at {W : World} {la : Option Addr} {lc : Nat} {l : List Ly} (h : LysAt W (.slice la l.length lc) l) {i : Nat} {y : Ly} (hx : l[i]? = some y) :
    ∃ b o, la = some ⟨b, o, none⟩ ∧ W.cell? ⟨b, o + i * 3, none⟩ = some (.bool y.out) ∧ W.cell? ⟨b, o + i * 3 + 1, none⟩ = some (.string y.cls) ∧ W.cell? ⟨b, o + i * 3 + 2, none⟩ = some (.int .i64 y.lab) ∧ y.cls.size ≤ maxLen := by
  obtain ⟨a, c, e, _, _, hat⟩ := h
  injection e with e
  subst e
  exact hat i y hx

set_option maxHeartbeats 4000000 in
theorem along1_P (n0 : Nat) (hn0 : 1 ≤ n0) (back : Bool) (b1 b2 : Nat) (la : Option Addr) (lc : Nat) (l : List Ly) (W1 : World) (hn : l.length ≤ 100000) :
    SeqP Fence.wide n0 Tryd.prog 73 #[.pointer (some ⟨b1, 0, none⟩), .pointer (some ⟨b2, 0, none⟩)] (fun y : Ly => #[lyV y]) (wayY back l) (fun _ => True) (AlInv b1 b2 back la lc l) W1 := by
  intro lr J Jp hl hInv hY h0
  obtain ⟨i1, _, _⟩ := hInv _ _ h0
  have c0 := i1.cell 0
  simp at c0
  refine callsIn_of_wp Tryd.func73 rfl trivial ?_ rfl
  simp only [Tryd.ntmps73, List.size_toArray, List.length_cons, List.length_nil, Nat.reduceAdd, Nat.reduceSub, Array.replicate_succ, Array.replicate_zero, List.push_toArray, List.append_toArray, List.nil_append, List.cons_append]
  gi_wp2
  clear c0
  gi_loopw [8] (fun i wr => ∃ m : Nat, i = .int .i64 m ∧ m ≤ l.length ∧ J m wr) (fun i wr => l.length - (intOf i).toNat)
  case atStart => exact ⟨0, by go_num, Nat.zero_le _, h0⟩
  case round =>
    obtain ⟨m, rfl, hm, hJ⟩ := hrel
    obtain ⟨hb1, hb2, hly⟩ := hInv _ _ hJ
    have c0 := hb1.cell 0
    have c1 := hb2.cell 0
    simp at c0 c1
    by_cases hlt : m < l.length
    · have hltI : (m : Int) < (l.length : Int) := by omega
      have hat := at_lt (back := back) hlt
      have hx : l[atV l.length back m]? = some l[atV l.length back m] := List.getElem?_eq_getElem hat
      generalize l[atV l.length back m] = y at hx
      obtain ⟨fn, tmps, assign, body, hy, hR⟩ := hY m y wr (by rw [wayY_at hlt, hx]) hJ
      obtain ⟨b, o, rfl, d0, d1, d2, _⟩ := lys_at hly hx
      have hw1 : wrap64 ((l.length : Int) - 1) = (l.length : Int) - 1 := by unfold wrap64; omega
      have hw2 : wrap64 ((l.length : Int) - 1 - (m : Int)) = (l.length : Int) - 1 - (m : Int) := by unfold wrap64; omega
      cases back with
      | false =>
        rw [show atV l.length false m = m from rfl] at d0 d1 d2
        clear hJ h0 hY hb1 hb2 i1 hly hx hat hInv
        gi_wp2
        refine hR.mono ?_
        rintro e W3 (⟨rfl, hJ3⟩ | ⟨ch, rfl, hJ3⟩)
        · have HJ := Lib.hid hJ3
          clear hJ3
          gi_wp2
          go_roundw
          case rel => exact ⟨m + 1, by go_num, by omega, HJ.out⟩
          case measure => simp [intOf]; omega
        · gi_wp2
          exact ⟨rfl, .inr ⟨ch, rfl, hJ3⟩⟩
      | true =>
        have hp : ((l.length : Int) - 1 - (m : Int)) = ((atV l.length true m : Nat) : Int) := by unfold atV; simp; omega
        rw [hp] at hw2
        generalize atV l.length true m = p at *
        clear hJ h0 hY hb1 hb2 i1 hly hx hInv
        gi_wp2
        refine hR.mono ?_
        rintro e W3 (⟨rfl, hJ3⟩ | ⟨ch, rfl, hJ3⟩)
        · have HJ := Lib.hid hJ3
          clear hJ3
          gi_wp2
          go_roundw
          case rel => exact ⟨m + 1, by go_num, by omega, HJ.out⟩
          case measure => simp [intOf]; omega
        · gi_wp2
          exact ⟨rfl, .inr ⟨ch, rfl, hJ3⟩⟩
    · obtain rfl : m = l.length := by omega
      have HJ := Lib.hid hJ
      clear hJ h0 hY hb1 hb2 i1 hInv
      gi_wp2
      refine bodyPost_end (results_none rfl _ _ _) rfl ?_
      exact .inl ⟨_, rfl, by rw [wayY_len]; exact HJ.out⟩
end Go.Proofs.YtdceafncncgfbaaDoor
