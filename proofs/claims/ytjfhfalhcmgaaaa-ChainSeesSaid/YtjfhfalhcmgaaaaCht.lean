/- The document's Classes; texts written over. -/
import Derived.Test.YtjfhfalhcmgaaaaChr
import Derived.OrdersHeld
import Derived.Deep.RegionHeld3
set_option linter.unusedSimpArgs false
set_option linter.unusedVariables false
set_option maxRecDepth 100000
namespace Go.Proofs.Ytjfhfalhcmgaaaa
open Go.ChangeShapes Go.WideShapes Go.ChangeAt Go.RowKit

/-- A block of texts, whatever they are, of at least n. -/
def RowOfX (w : World) (g n : Nat) : Prop := ∃ cur, w.heap[g]? = some (.cells cur 9 (0, 0)) ∧ n ≤ cur.size
theorem RowOfX.cell {w : World} {g n k : Nat} (h : RowOfX w g n) (hk : k < n) : ∃ v, w.cell? ⟨g, k, none⟩ = some v := by
  obtain ⟨cur, h1, h2⟩ := h
  exact ⟨cur[k]'(by omega), by rw [cell_of_row w g k cur _ _ h1]; exact Array.getElem?_eq_getElem (by omega)⟩
theorem RowOfX.frozen {w : World} {g n k : Nat} (h : RowOfX w g n) : w.frozen? ⟨g, k, none⟩ = false := by
  obtain ⟨cur, h1, h2⟩ := h
  exact (show Blk w g 9 cur from h1).frozen k
theorem RowOfX.put {w : World} {g n k : Nat} (h : RowOfX w g n) (u : Value) : RowOfX (w.setCell ⟨g, k, none⟩ u) g n := by
  obtain ⟨cur, h1, h2⟩ := h
  exact ⟨_, (show Blk w g 9 cur from h1).put k u, by simpa using h2⟩
theorem owns_rowX {w : World} {base n : Nat} {v : Value} {xs : List Value} (h : w.ownsRow base 9 1 v n xs) : (v = .slice none 0 0 ∧ n = 0) ∨ ∃ g c, v = .slice (some ⟨g, 0, none⟩) n c ∧ base ≤ g ∧ RowOfX w g n ∧ n ≤ maxLen := by
  rcases h.2 with ⟨rfl, h0⟩ | ⟨g, cap, cur, rfl, hb, hg, hnc, hcm, hsz, _⟩
  · exact .inl ⟨rfl, h0⟩
  · exact .inr ⟨g, cap, rfl, hb, ⟨cur, hg, by rw [hsz, Nat.mul_one]; exact hnc⟩, by omega⟩

set_option maxHeartbeats 4000000 in
theorem overX_c (base n : Nat) (v : Value) (xs : List Value) (w : World) (h : w.ownsRow base 9 1 v n xs) :
    Calls Try.prog 27 #[v] w fun e w' => e = .returned (.tuple #[]) ∧ Only (fun k => base ≤ k ∧ some k = v.ownBlock) w w' := by
  rcases owns_rowX h with ⟨rfl, rfl⟩ | ⟨g, c, rfl, hb, hr, hn⟩
  · clear h
    go_enter Try.func27, Try.ntmps27
    go_wp2_with fail
    go_loopw [2] (fun i wr => i = .int .i64 0 ∧ wr = w) (fun i wr => 0)
    case atStart => exact ⟨rfl, rfl⟩
    case round =>
      obtain ⟨rfl, rfl⟩ := hrel
      go_wp2_with fail
      go_returns
      exact ⟨rfl, Only.refl _ _⟩
  · clear h
    unfold maxLen at hn
    have HB := Lib.hid hb
    clear hb
    go_enter Try.func27, Try.ntmps27
    go_wp2_with fail
    go_loopw [2] (fun i wr => ∃ k : Nat, k ≤ n ∧ i = .int .i64 k ∧ RowOfX wr g n ∧ Only (· = g) w wr) (fun i wr => n - (intOf i).toNat)
    case atStart => exact ⟨0, by omega, rfl, hr, Only.refl _ _⟩
    case round =>
      obtain ⟨k, hk, rfl, hr, ho⟩ := hrel
      by_cases hlt : k < n
      · have hltI : (k : Int) < (n : Int) := by omega
        obtain ⟨v0, a0⟩ := hr.cell (k := k) (by omega)
        have f0 := hr.frozen (k := k)
        have HR := Lib.hid (fun u0 => hr.put (k := k) u0)
        have HO := Lib.hid (fun u0 => ho.put k u0)
        clear hr ho
        go_wp2_with fail
        go_roundw
        case rel => exact ⟨k + 1, by omega, by go_num, HR.out _, HO.out _⟩
        case measure => simp [intOf]; omega
      · obtain rfl : k = n := by omega
        have hltI : ¬ (k : Int) < (k : Int) := by omega
        go_wp2_with fail
        go_returns
        exact ⟨rfl, ho.mono fun i _ e => ⟨by have := HB.out; omega, by subst e; rfl⟩⟩

theorem in_take {l : List ByteArray} {s y : ByteArray} {j : Nat} (h : l[j]? = some y) : decide (s ∈ l.take (j + 1)) = (decide (s ∈ l.take j) || decide (y = s)) := by
  rw [List.take_add_one, h]
  by_cases h1 : s ∈ l.take j
  · rw [decide_eq_true h1, decide_eq_true (List.mem_append_left _ h1)]; rfl
  · by_cases h2 : y = s
    · rw [decide_eq_true h2, decide_eq_true (List.mem_append_right _ (by simp [h2]))]; simp
    · rw [decide_eq_false h1, decide_eq_false h2, decide_eq_false (fun h => (List.mem_append.1 h).elim h1 (fun h => h2 (by have h3 := h; simp at h3; exact h3.symm)))]; rfl
theorem beqX {x s : ByteArray} : (x.toList == s.toList) = decide (x = s) := by
  by_cases h : x = s
  · rw [decide_eq_true h, h]; exact beq_self_eq_true _
  · rw [decide_eq_false h]; exact beqL_no h

set_option maxHeartbeats 8000000 in
theorem rclasses_c (own : ByteArray) (l : List Ly) (v : Value) (w : World) (h : LysAt w v l) (hl : l.length ≤ 1000) :
    Calls Try.prog 24 #[.string own, v] w (OwnT w (clsL own l)) := by
  obtain ⟨i0, hi, hz0, hzz1, hzz2⟩ := info_parts info_strL
  obtain ⟨la, lc, rfl, hlc, hcm, hat⟩ := h
  have HAT := Lib.hid hat
  clear hat
  unfold maxLen at hcm
  obtain ⟨W1, hW1⟩ : ∃ W1, w.alloc (.cells #[.string own] 9) = W1 := ⟨_, rfl⟩
  have k1 : Kept w W1 := by rw [← hW1]; exact (Kept.refl w).alloc _
  have b1 : Blk W1 w.heap.size 9 #[.string own] := by rw [← hW1]; exact Blk.new w _ _
  have HR3 := Lib.hid (show W1.ownsRow w.heap.size 9 1 (.slice (some ⟨w.heap.size, 0, none⟩) (clsL own (l.take 0)).length 1) (clsL own (l.take 0)).length ((clsL own (l.take 0)).map Value.string) from
    ⟨by simp, .inr ⟨w.heap.size, 1, _, rfl, Nat.le_refl _, b1, Nat.le_refl _, by decide, rfl, rfl⟩⟩)
  have HK1 := Lib.hid k1
  have HW1 := Lib.hid hW1
  clear k1 b1 hW1
  go_enter Try.func24, Try.ntmps24
  go_wp2_with fail
  rw [HW1.out]
  go_loopw [5, 6] (fun r i wq => ∃ (k : Nat) (a : Option Addr) (c : Nat), k ≤ l.length ∧ i = .int .i64 k ∧ r = .slice a (clsL own (l.take k)).length c ∧
    Hid (wq.ownsRow w.heap.size 9 1 (.slice a (clsL own (l.take k)).length c) (clsL own (l.take k)).length ((clsL own (l.take k)).map Value.string)) ∧ Kept w wq) (fun r i wq => l.length - (intOf i).toNat)
  case atStart => exact ⟨0, _, 1, by omega, rfl, rfl, HR3, HK1.out⟩
  case round =>
    obtain ⟨k, a, c, hk, rfl, rfl, HR, hkp⟩ := hrel
    have HK := Lib.hid hkp
    have hsz := hkp.size
    by_cases hlt : k < l.length
    · have hltI : (k : Int) < (l.length : Int) := by omega
      have hx : l[k]? = some l[k] := List.getElem?_eq_getElem hlt
      generalize l[k] = x at hx
      have HN := Lib.hid (clsL_next (own := own) hx)
      obtain ⟨lb, lo, rfl, hly⟩ := HAT.out _ _ hx
      obtain ⟨x0, x1, x2, x3⟩ := hly.kept hkp
      have hal := clsL_len own (l.take k)
      have hal2 : (clsL own (l.take k)).length ≤ 1001 := by simp at hal; omega
      generalize clsL own (l.take k) = acc at *
      clear hx hly hkp hal x0 x2
      obtain ⟨wo, rfl⟩ : ∃ wo, wo = wr := ⟨_, rfl⟩
      have HX1 := Lib.hid x1
      have HT := Lib.hid (owns_txs HR.out)
      obtain ⟨_, _, e0, _, _, hta⟩ := HT.out
      injection e0 with e1 _ e3
      rw [← e1] at hta
      have HTA := Lib.hid hta
      clear hta e1 e3 x1
      go_wp2_with fail
      go_loopw [7, 8] (fun t i wq => ∃ (j : Nat), j ≤ acc.length ∧ i = .int .i64 j ∧ t = .bool (decide (x.cls ∈ acc.take j)) ∧ Kept wo wq) (fun t i wq => acc.length - (intOf i).toNat)
      case atStart => exact ⟨0, by omega, rfl, by simp, Kept.refl _⟩
      case round =>
        obtain ⟨j, hj, rfl, rfl, hkq⟩ := hrel
        have HKQ := Lib.hid hkq
        by_cases hjl : j < acc.length
        · have hjI : (j : Int) < (acc.length : Int) := by omega
          have hy : acc[j]? = some acc[j] := List.getElem?_eq_getElem hjl
          generalize acc[j] = y at hy
          have HIN := Lib.hid (in_take (s := x.cls) hy)
          obtain ⟨ab, ao, rfl, hyc⟩ := HTA.out _ _ hy
          have y0 : wr.cell? ⟨ab, ao + j, none⟩ = some (.string y) := by simpa [TxL] using hkq.cell hyc
          have z1 := hkq.cell HX1.out
          obtain ⟨tb, htb⟩ : ∃ t, decide (x.cls ∈ acc.take j) = t := ⟨_, rfl⟩
          have hq : (y.toList == x.cls.toList) = decide (y = x.cls) := beqX
          obtain ⟨qb, hqb⟩ : ∃ t, decide (y = x.cls) = t := ⟨_, rfl⟩
          rw [hqb] at hq HIN
          rw [htb] at HIN ⊢
          clear hy hyc hkq htb hqb
          obtain ⟨wq, hwq⟩ : ∃ wq, wq = wr := ⟨_, rfl⟩
          rw [← hwq] at y0 z1 HKQ ⊢
          clear hwq
          cases tb with
          | true =>
            go_wp2_with fail
            refine wp_region_held_drew (S := (fun W => W.cell? ⟨ab, ao + j, none⟩ = some (.string y) ∧ W.cell? ⟨lb, lo + k * 3 + 1, none⟩ = some (.string x.cls) ∧ Kept wq W)) (by kernel_rfl) ⟨(Kept.refl wq).drew.cell y0, (Kept.refl wq).drew.cell z1, (Kept.refl wq).drew⟩ (fun hHeld0 => ?_)
            refine wpAnyH_take (i := 0) (v := ?_) rfl (by kernel_rfl) (by kernel_rfl) (by kernel_rfl) (fun _ _ _ h => h) (Or.inl ⟨by kernel_rfl, ?_⟩) (by assumption) ?_
            rotate_left
            · intro w hSw; (try dsimp only at hSw); go_simp; (try with_reducible rfl)
            (try simp only [Act.put, List.getElem_toArray, List.getElem_cons_zero, List.getElem_cons_succ, List.setIfInBounds_toArray, List.set_cons_zero, List.set_cons_succ])
            refine wpAnyH_take (i := 1) (v := ?_) rfl (by kernel_rfl) (by kernel_rfl) (by kernel_rfl) (fun _ _ _ h => h) (Or.inl ⟨by kernel_rfl, ?_⟩) (by assumption) ?_
            rotate_left
            · intro w hSw; (try dsimp only at hSw); go_simp; (try with_reducible rfl)
            (try simp only [Act.put, List.getElem_toArray, List.getElem_cons_zero, List.getElem_cons_succ, List.setIfInBounds_toArray, List.set_cons_zero, List.set_cons_succ])
            refine wpAnyH_take (i := 2) (v := undef) rfl (by kernel_rfl) (by kernel_rfl) (by kernel_rfl) (fun _ _ _ h => h) (Or.inr ⟨by kernel_rfl, rfl⟩) (by assumption) ?_
            (try simp only [Act.put, List.getElem_toArray, List.getElem_cons_zero, List.getElem_cons_succ, List.setIfInBounds_toArray, List.set_cons_zero, List.set_cons_succ])
            refine wpAnyH_take (i := 3) (v := undef) rfl (by kernel_rfl) (by kernel_rfl) (by kernel_rfl) (fun _ _ _ h => h) (Or.inr ⟨by kernel_rfl, rfl⟩) (by assumption) ?_
            (try simp only [Act.put, List.getElem_toArray, List.getElem_cons_zero, List.getElem_cons_succ, List.setIfInBounds_toArray, List.set_cons_zero, List.set_cons_succ])
            refine wpAnyH_take (i := 4) (v := undef) rfl (by kernel_rfl) (by kernel_rfl) (by kernel_rfl) (fun _ _ _ h => h) (Or.inr ⟨by kernel_rfl, rfl⟩) (by assumption) ?_
            (try simp only [Act.put, List.getElem_toArray, List.getElem_cons_zero, List.getElem_cons_succ, List.setIfInBounds_toArray, List.set_cons_zero, List.set_cons_succ])
            refine wpAnyH_take (i := 5) (v := undef) rfl (by kernel_rfl) (by kernel_rfl) (by kernel_rfl) (fun _ _ _ h => h) (Or.inr ⟨by kernel_rfl, rfl⟩) (by assumption) ?_
            (try simp only [Act.put, List.getElem_toArray, List.getElem_cons_zero, List.getElem_cons_succ, List.setIfInBounds_toArray, List.set_cons_zero, List.set_cons_succ])
            refine wpAnyH_take (i := 6) (v := undef) rfl (by kernel_rfl) (by kernel_rfl) (by kernel_rfl) (fun _ _ _ h => h) (Or.inr ⟨by kernel_rfl, rfl⟩) (by assumption) ?_
            (try simp only [Act.put, List.getElem_toArray, List.getElem_cons_zero, List.getElem_cons_succ, List.setIfInBounds_toArray, List.set_cons_zero, List.set_cons_succ])
            refine wpAnyH_take (i := 7) (v := undef) rfl (by kernel_rfl) (by kernel_rfl) (by kernel_rfl) (fun _ _ _ h => h) (Or.inr ⟨by kernel_rfl, rfl⟩) (by assumption) ?_
            (try simp only [Act.put, List.getElem_toArray, List.getElem_cons_zero, List.getElem_cons_succ, List.setIfInBounds_toArray, List.set_cons_zero, List.set_cons_succ])
            refine wpAnyH_take (i := 8) (v := undef) rfl (by kernel_rfl) (by kernel_rfl) (by kernel_rfl) (fun _ _ _ h => h) (Or.inr ⟨by kernel_rfl, rfl⟩) (by assumption) ?_
            (try simp only [Act.put, List.getElem_toArray, List.getElem_cons_zero, List.getElem_cons_succ, List.setIfInBounds_toArray, List.set_cons_zero, List.set_cons_succ])
            refine wpAnyH_take (i := 9) (v := undef) rfl (by kernel_rfl) (by kernel_rfl) (by kernel_rfl) (fun _ _ _ h => h) (Or.inr ⟨by kernel_rfl, rfl⟩) (by assumption) ?_
            (try simp only [Act.put, List.getElem_toArray, List.getElem_cons_zero, List.getElem_cons_succ, List.setIfInBounds_toArray, List.set_cons_zero, List.set_cons_succ])
            refine wpAnyH_take (i := 10) (v := undef) rfl (by kernel_rfl) (by kernel_rfl) (by kernel_rfl) (fun _ _ _ h => h) (Or.inr ⟨by kernel_rfl, rfl⟩) (by assumption) ?_
            (try simp only [Act.put, List.getElem_toArray, List.getElem_cons_zero, List.getElem_cons_succ, List.setIfInBounds_toArray, List.set_cons_zero, List.set_cons_succ])
            refine wpAnyH_take (i := 11) (v := undef) rfl (by kernel_rfl) (by kernel_rfl) (by kernel_rfl) (fun _ _ _ h => h) (Or.inr ⟨by kernel_rfl, rfl⟩) (by assumption) ?_
            (try simp only [Act.put, List.getElem_toArray, List.getElem_cons_zero, List.getElem_cons_succ, List.setIfInBounds_toArray, List.set_cons_zero, List.set_cons_succ])
            refine wpAnyH_take (i := 12) (v := ?_) rfl (by kernel_rfl) (by kernel_rfl) (by kernel_rfl) (fun _ _ _ h => h) (Or.inl ⟨by kernel_rfl, ?_⟩) (by assumption) ?_
            rotate_left
            · intro w hSw; (try dsimp only at hSw); go_simp; (try with_reducible rfl)
            (try simp only [Act.put, List.getElem_toArray, List.getElem_cons_zero, List.getElem_cons_succ, List.setIfInBounds_toArray, List.set_cons_zero, List.set_cons_succ])
            refine wpAnyH_take (i := 13) (v := ?_) rfl (by kernel_rfl) (by kernel_rfl) (by kernel_rfl) (fun _ _ _ h => h) (Or.inl ⟨by kernel_rfl, ?_⟩) (by assumption) ?_
            rotate_left
            · intro w hSw; (try dsimp only at hSw); go_simp; (try with_reducible rfl)
            (try simp only [Act.put, List.getElem_toArray, List.getElem_cons_zero, List.getElem_cons_succ, List.setIfInBounds_toArray, List.set_cons_zero, List.set_cons_succ])
            refine wpAnyH_done (by kernel_rfl) ?_ _
            clear hHeld0
            go_wp2_with fail
            go_roundw
            case rel => exact ⟨j + 1, by omega, by go_num, by rw [HIN.out]; rfl, HKQ.out.drew⟩
            case measure => simp [intOf]; omega
          | false =>
            go_wp2_with fail
            refine wp_region_held_drew (S := (fun W => W.cell? ⟨ab, ao + j, none⟩ = some (.string y) ∧ W.cell? ⟨lb, lo + k * 3 + 1, none⟩ = some (.string x.cls) ∧ Kept wq W)) (by kernel_rfl) ⟨(Kept.refl wq).drew.cell y0, (Kept.refl wq).drew.cell z1, (Kept.refl wq).drew⟩ (fun hHeld0 => ?_)
            refine wpAnyH_take (i := 0) (v := ?_) rfl (by kernel_rfl) (by kernel_rfl) (by kernel_rfl) (fun _ _ _ h => h) (Or.inl ⟨by kernel_rfl, ?_⟩) (by assumption) ?_
            rotate_left
            · intro w hSw; (try dsimp only at hSw); go_simp; (try with_reducible rfl)
            (try simp only [Act.put, List.getElem_toArray, List.getElem_cons_zero, List.getElem_cons_succ, List.setIfInBounds_toArray, List.set_cons_zero, List.set_cons_succ])
            refine wpAnyH_take (i := 1) (v := ?_) rfl (by kernel_rfl) (by kernel_rfl) (by kernel_rfl) (fun _ _ _ h => h) (Or.inl ⟨by kernel_rfl, ?_⟩) (by assumption) ?_
            rotate_left
            · intro w hSw; (try dsimp only at hSw); go_simp; (try with_reducible rfl)
            (try simp only [Act.put, List.getElem_toArray, List.getElem_cons_zero, List.getElem_cons_succ, List.setIfInBounds_toArray, List.set_cons_zero, List.set_cons_succ])
            refine wpAnyH_take (i := 2) (v := ?_) rfl (by kernel_rfl) (by kernel_rfl) (by kernel_rfl) (fun _ _ _ h => h) (Or.inl ⟨by kernel_rfl, ?_⟩) (by assumption) ?_
            rotate_left
            · intro w hSw; (try dsimp only at hSw); go_simp; (try with_reducible rfl)
            (try simp only [Act.put, List.getElem_toArray, List.getElem_cons_zero, List.getElem_cons_succ, List.setIfInBounds_toArray, List.set_cons_zero, List.set_cons_succ])
            refine wpAnyH_take (i := 3) (v := ?_) rfl (by kernel_rfl) (by kernel_rfl) (by kernel_rfl) (fun _ _ _ h => h) (Or.inl ⟨by kernel_rfl, ?_⟩) (by assumption) ?_
            rotate_left
            · intro w hSw; (try dsimp only at hSw); go_simp; (try with_reducible rfl)
            (try simp only [Act.put, List.getElem_toArray, List.getElem_cons_zero, List.getElem_cons_succ, List.setIfInBounds_toArray, List.set_cons_zero, List.set_cons_succ])
            refine wpAnyH_take (i := 4) (v := ?_) rfl (by kernel_rfl) (by kernel_rfl) (by kernel_rfl) (fun _ _ _ h => h) (Or.inl ⟨by kernel_rfl, ?_⟩) (by assumption) ?_
            rotate_left
            · intro w hSw; (try dsimp only at hSw); go_simp; (try with_reducible rfl)
            (try simp only [Act.put, List.getElem_toArray, List.getElem_cons_zero, List.getElem_cons_succ, List.setIfInBounds_toArray, List.set_cons_zero, List.set_cons_succ])
            refine wpAnyH_take (i := 5) (v := ?_) rfl (by kernel_rfl) (by kernel_rfl) (by kernel_rfl) (fun _ _ _ h => h) (Or.inl ⟨by kernel_rfl, ?_⟩) (by assumption) ?_
            rotate_left
            · intro w hSw; (try dsimp only at hSw); go_simp; (try with_reducible rfl)
            (try simp only [Act.put, List.getElem_toArray, List.getElem_cons_zero, List.getElem_cons_succ, List.setIfInBounds_toArray, List.set_cons_zero, List.set_cons_succ])
            refine wpAnyH_take (i := 6) (v := ?_) rfl (by kernel_rfl) (by kernel_rfl) (by kernel_rfl) (fun _ _ _ h => h) (Or.inl ⟨by kernel_rfl, ?_⟩) (by assumption) ?_
            rotate_left
            · intro w hSw; (try dsimp only at hSw); go_simp; (try with_reducible rfl)
            (try simp only [Act.put, List.getElem_toArray, List.getElem_cons_zero, List.getElem_cons_succ, List.setIfInBounds_toArray, List.set_cons_zero, List.set_cons_succ])
            refine wpAnyH_take (i := 7) (v := ?_) rfl (by kernel_rfl) (by kernel_rfl) (by kernel_rfl) (fun _ _ _ h => h) (Or.inl ⟨by kernel_rfl, ?_⟩) (by assumption) ?_
            rotate_left
            · intro w hSw; (try dsimp only at hSw); go_simp; (try with_reducible rfl)
            (try simp only [Act.put, List.getElem_toArray, List.getElem_cons_zero, List.getElem_cons_succ, List.setIfInBounds_toArray, List.set_cons_zero, List.set_cons_succ])
            refine wpAnyH_take (i := 8) (v := ?_) rfl (by kernel_rfl) (by kernel_rfl) (by kernel_rfl) (fun _ _ _ h => h) (Or.inl ⟨by kernel_rfl, ?_⟩) (by assumption) ?_
            rotate_left
            · intro w hSw; (try dsimp only at hSw); go_simp; (try with_reducible rfl)
            (try simp only [Act.put, List.getElem_toArray, List.getElem_cons_zero, List.getElem_cons_succ, List.setIfInBounds_toArray, List.set_cons_zero, List.set_cons_succ])
            refine wpAnyH_take (i := 9) (v := ?_) rfl (by kernel_rfl) (by kernel_rfl) (by kernel_rfl) (fun _ _ _ h => h) (Or.inl ⟨by kernel_rfl, ?_⟩) (by assumption) ?_
            rotate_left
            · intro w hSw; (try dsimp only at hSw); go_simp; (try with_reducible rfl)
            (try simp only [Act.put, List.getElem_toArray, List.getElem_cons_zero, List.getElem_cons_succ, List.setIfInBounds_toArray, List.set_cons_zero, List.set_cons_succ])
            refine wpAnyH_take (i := 10) (v := ?_) rfl (by kernel_rfl) (by kernel_rfl) (by kernel_rfl) (fun _ _ _ h => h) (Or.inl ⟨by kernel_rfl, ?_⟩) (by assumption) ?_
            rotate_left
            · intro w hSw; (try dsimp only at hSw); go_simp; (try with_reducible rfl)
            (try simp only [Act.put, List.getElem_toArray, List.getElem_cons_zero, List.getElem_cons_succ, List.setIfInBounds_toArray, List.set_cons_zero, List.set_cons_succ])
            refine wpAnyH_take (i := 11) (v := ?_) rfl (by kernel_rfl) (by kernel_rfl) (by kernel_rfl) (fun _ _ _ h => h) (Or.inl ⟨by kernel_rfl, ?_⟩) (by assumption) ?_
            rotate_left
            · intro w hSw; (try dsimp only at hSw); go_simp; (try with_reducible rfl)
            (try simp only [Act.put, List.getElem_toArray, List.getElem_cons_zero, List.getElem_cons_succ, List.setIfInBounds_toArray, List.set_cons_zero, List.set_cons_succ])
            refine wpAnyH_take (i := 12) (v := ?_) rfl (by kernel_rfl) (by kernel_rfl) (by kernel_rfl) (fun _ _ _ h => h) (Or.inl ⟨by kernel_rfl, ?_⟩) (by assumption) ?_
            rotate_left
            · intro w hSw; (try dsimp only at hSw); go_simp; (try with_reducible rfl)
            (try simp only [Act.put, List.getElem_toArray, List.getElem_cons_zero, List.getElem_cons_succ, List.setIfInBounds_toArray, List.set_cons_zero, List.set_cons_succ])
            refine wpAnyH_take (i := 13) (v := ?_) rfl (by kernel_rfl) (by kernel_rfl) (by kernel_rfl) (fun _ _ _ h => h) (Or.inl ⟨by kernel_rfl, ?_⟩) (by assumption) ?_
            rotate_left
            · intro w hSw; (try dsimp only at hSw); go_simp; (try with_reducible rfl)
            (try simp only [Act.put, List.getElem_toArray, List.getElem_cons_zero, List.getElem_cons_succ, List.setIfInBounds_toArray, List.set_cons_zero, List.set_cons_succ])
            refine wpAnyH_done (by kernel_rfl) ?_ _
            clear hHeld0
            go_wp2_with fail
            go_roundw
            case rel => exact ⟨j + 1, by omega, by go_num, by rw [HIN.out]; rfl, HKQ.out.drew⟩
            case measure => simp [intOf]; omega
        · obtain rfl : j = acc.length := by omega
          have hjI : ¬ (acc.length : Int) < (acc.length : Int) := by omega
          rw [List.take_length]
          have HK2 := Lib.hid (HK.out.trans hkq)
          have z1 := hkq.cell HX1.out
          obtain ⟨b, hb⟩ : ∃ b, decide (x.cls ∈ acc) = b := ⟨_, rfl⟩
          rw [hb]
          have HB := Lib.hid hb
          have HRQ := Lib.hid (owns_keptL HR.out hkq)
          clear hkq hb
          obtain ⟨wq, hwq⟩ : ∃ wq, wq = wr := ⟨_, rfl⟩
          rw [← hwq] at z1 HK2 HRQ ⊢
          clear hwq
          cases b with
          | true =>
            have HN2 := Lib.hid (show clsL own (l.take (k + 1)) = acc by rw [HN.out, if_pos (decide_in HB.out rfl)])
            go_wp2_with fail
            go_roundw
            case rel => exact ⟨k + 1, a, c, by omega, by go_num, by rw [HN2.out], Lib.hid (by rw [HN2.out]; exact HRQ.out), HK2.out⟩
            case measure => simp [intOf]; omega
          | false =>
            have HN2 := Lib.hid (show clsL own (l.take (k + 1)) = acc ++ [x.cls] by rw [HN.out, if_neg (of_decide_eq_false HB.out)])
            obtain ⟨W3, hW3⟩ : ∃ W3, wq.alloc (.cells #[.string x.cls] 9) = W3 := ⟨_, rfl⟩
            have HSR := Lib.hid (show Src Try.prog 1 33 (.slice (some ⟨wq.heap.size, 0, none⟩) 1 1) 1 [.string x.cls] W3 by
              rw [← hW3]
              exact Src.ofSlice (P := Try.prog) (size := 1) (tx := 33) _ Try.underlying33 ⟨wq.heap.size, 0, none⟩ 1 1 [.string x.cls] rfl (cell_one_new wq _ _) (by simp [Value.oneCell']))
            have HR3 := Lib.hid (show W3.ownsRow w.heap.size 9 1 (.slice a acc.length c) acc.length (acc.map Value.string) by rw [← hW3]; exact owns_keptL HRQ.out ((Kept.refl _).alloc _))
            have HK3 := Lib.hid (show Kept w W3 by rw [← hW3]; exact HK2.out.alloc _)
            have hsz3 : w.heap.size ≤ W3.heap.size := HK3.out.size
            have HW3 := Lib.hid hW3
            clear hW3
            go_wp2_with (first | rw [HW3.out] | (at_builtin; refine wpList_apk rfl (.tmp 38) (.tmp 44) 33 33 rfl w.heap.size 1 9 i0 _ 16 Try.underlying33 hi hz0 hzz1 hzz2 rfl rfl HR3.out rfl HSR.out (by unfold maxLen; omega) (by omega) hsz3 ?_; intro v' w4 hown' hgrow hlies; have HN4 := Lib.hid hown'; have HK4 := Lib.hid (HK3.out.grown hgrow fun k e => rown_geL HR3.out e); obtain ⟨va', vc', rfl⟩ := owns_slice_nL hown'; clear hown' hgrow hlies))
            go_roundw
            case rel => exact ⟨k + 1, va', vc', by omega, by go_num, by rw [HN2.out, List.length_append]; rfl, Lib.hid (by rw [HN2.out, List.length_append, List.map_append]; exact HN4.out), HK4.out⟩
            case measure => simp [intOf]; omega
    · obtain rfl : k = l.length := by omega
      have hltI : ¬ (l.length : Int) < (l.length : Int) := by omega
      rw [List.take_length] at HR ⊢
      clear hkp
      go_wp2_with fail
      go_ret
      exact ⟨⟨a, c, rfl, HR.out⟩, HK.out⟩

end Go.Proofs.Ytjfhfalhcmgaaaa
