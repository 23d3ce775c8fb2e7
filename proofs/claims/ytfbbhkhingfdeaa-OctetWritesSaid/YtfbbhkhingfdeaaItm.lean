/- Items that came in: what the law reads of them; Long; and what one item writes, and what reads it. -/
import Derived.Test.YtfbbhkhingfdeaaKtr
import Derived.Test.YtfbbhkhingfdeaaKnw
set_option linter.unusedSimpArgs false
set_option linter.unusedVariables false
namespace Go.Proofs.Ytfbbhkhingfdeaa
open Go.ChangeShapes Go.WideShapes Go.ChangeAt Go.RowKit

/-- An item's three fields. -/
structure Itm where
  kind : Int
  num : Int
  txt : ByteArray

/-- An item that fits its fields' types. -/
def Itm.ok (i : Itm) : Prop := (-9223372036854775808 ≤ i.kind ∧ i.kind ≤ 9223372036854775807) ∧ (-9223372036854775808 ≤ i.num ∧ i.num ≤ 9223372036854775807) ∧ i.txt.size ≤ maxLen

/-- The items that a slice leads to. -/
def Items (w : World) (b off : Nat) (l : List Itm) : Prop := ∀ (i : Nat) (x : Itm), l[i]? = some x → x.ok ∧ w.cell? ⟨b, off + i * 3, none⟩ = some (.int .i64 x.kind) ∧ w.cell? ⟨b, off + i * 3 + 1, none⟩ = some (.int .i64 x.num) ∧ w.cell? ⟨b, off + i * 3 + 2, none⟩ = some (.string x.txt)

theorem Items.kept {w w' : World} {b off : Nat} {l : List Itm} (h : Items w b off l) (k : Kept w w') : Items w' b off l := fun i x hx => by
  obtain ⟨h1, h2, h3, h4⟩ := h i x hx
  exact ⟨h1, k.cellA h2, k.cellA h3, k.cellA h4⟩

/-- The items that a slice has. -/
def Has (w : World) (a : Option Addr) (l : List Itm) : Prop := l ≠ [] → ∃ b off, a = some ⟨b, off, none⟩ ∧ Items w b off l
theorem Has.kept {w w' : World} {a : Option Addr} {l : List Itm} (h : Has w a l) (k : Kept w w') : Has w' a l := fun hl => by
  obtain ⟨b, off, e, hi⟩ := h hl
  exact ⟨b, off, e, hi.kept k⟩
theorem Has.at {w : World} {a : Option Addr} {l : List Itm} (h : Has w a l) {k : Nat} (hk : k < l.length) : ∃ b off x, a = some ⟨b, off, none⟩ ∧ l[k]? = some x ∧ x.ok ∧ w.cell? ⟨b, off + k * 3, none⟩ = some (.int .i64 x.kind) ∧ w.cell? ⟨b, off + k * 3 + 1, none⟩ = some (.int .i64 x.num) ∧ w.cell? ⟨b, off + k * 3 + 2, none⟩ = some (.string x.txt) := by
  obtain ⟨b, off, e, hi⟩ := h (by rintro rfl; simp at hk)
  have hx : l[k]? = some l[k] := List.getElem?_eq_getElem hk
  exact ⟨b, off, _, e, hx, hi k _ hx⟩

/-- Is one of the first 41 texts longer than 100 bytes? -/
def longB (l : List Itm) : Bool := ((l.take 41).any fun x => decide (100 < x.txt.size)) || decide (40 < l.length)

theorem long_c (a : Option Addr) (l : List Itm) (cap : Nat) (w : World) (hl : l.length ≤ cap) (hm : cap ≤ maxLen) (h : Has w a l) :
    Calls Try.prog 10 #[.slice a l.length cap] w fun e w' => e = .returned (.bool (longB l)) ∧ w = w' := by
  unfold maxLen at hm
  go_enter Try.func10, Try.ntmps10
  go_wp2
  go_loop [3] (fun s3 => ∃ k : Nat, s3 = .int .i64 k ∧ k ≤ l.length ∧ k ≤ 41 ∧ ((l.take k).any fun x => decide (100 < x.txt.size)) = false) (fun s3 => l.length - (intOf s3).toNat)
  case atStart => exact ⟨0, rfl, by omega, by omega, by simp⟩
  case round =>
    obtain ⟨k, rfl, h1, h2, h3⟩ := hrel
    by_cases hk : k < l.length
    · by_cases h41 : k < 41
      · obtain ⟨b, off, y, rfl, hy, hok, c0, c1, c2⟩ := h.at hk
        have hts := hok.2.2
        unfold maxLen at hts
        have hkI : (k : Int) < (l.length : Int) := by omega
        have h41I : (k : Int) < 41 := by omega
        have hsn : ((l.take (k + 1)).any fun x => decide (100 < x.txt.size)) = decide (100 < y.txt.size) := by
          rw [List.take_add_one, hy, List.any_append, h3]
          simp
        have HSN := Lib.hid hsn
        have HY := Lib.hid hy
        have H3 := Lib.hid h3
        clear hsn hy h3
        by_cases hlong : 100 < y.txt.size
        · have hlI : (100 : Int) < (y.txt.size : Int) := by omega
          have HB := Lib.hid (show longB l = true by
            unfold longB
            rw [Bool.or_eq_true]
            refine .inl (List.any_eq_true.2 ⟨y, ?_, by simpa using hlong⟩)
            rw [List.mem_iff_getElem?]
            exact ⟨k, by rw [List.getElem?_take, if_pos h41]; exact HY.out⟩)
          clear hlong
          go_wp2
          go_ret
          exact ⟨by rw [HB.out]; rfl, rfl⟩
        · have hlI : ¬ (100 : Int) < (y.txt.size : Int) := by omega
          have HN := Lib.hid hlong
          clear hlong
          go_wp2
          go_round
          case rel => exact ⟨k + 1, by go_num, by omega, by omega, by rw [HSN.out]; simpa using HN.out⟩
          case measure => simp [intOf]; omega
      · have hkI : (k : Int) < (l.length : Int) := by omega
        have h41I : ¬ (k : Int) < 41 := by omega
        have h40 : (40 : Int) < (l.length : Int) := by omega
        have HB := Lib.hid (show longB l = true by
          unfold longB
          rw [Bool.or_eq_true]
          exact .inr (by simp; omega))
        clear h3
        go_wp2
        go_ret
        exact ⟨by rw [HB.out]; rfl, rfl⟩
    · have hkI : ¬ (k : Int) < (l.length : Int) := by omega
      have hkl : k = l.length := by omega
      have ht : l.take 41 = l.take k := by rw [List.take_of_length_le (by omega), List.take_of_length_le (by omega)]
      have hll : ¬ 40 < l.length ∨ 40 < l.length := by omega
      rcases hll with hq | hq
      · have HB := Lib.hid (show longB l = false by unfold longB; rw [ht, h3]; simpa using hq)
        have hq' : ¬ (40 : Int) < (l.length : Int) := by omega
        clear h3 ht hkl hq
        go_wp2
        go_ret
        exact ⟨by rw [HB.out]; first | rfl | simp [hq'], rfl⟩
      · have HB := Lib.hid (show longB l = true by unfold longB; rw [Bool.or_eq_true]; exact .inr (by simpa using hq))
        have hq' : (40 : Int) < (l.length : Int) := by omega
        clear h3 ht hkl hq
        go_wp2
        go_ret
        exact ⟨by rw [HB.out]; first | rfl | simp [hq'], rfl⟩

theorem not_long {l : List Itm} (h : longB l = false) : l.length ≤ 40 ∧ ∀ x ∈ l, x.txt.size ≤ 100 := by
  unfold longB at h
  rw [Bool.or_eq_false_iff] at h
  have h2 : l.length ≤ 40 := by simpa using h.2
  refine ⟨h2, fun x hx => ?_⟩
  have h1 := h.1
  rw [List.take_of_length_le (by omega)] at h1
  have := List.any_eq_false.1 h1 x hx
  simpa using this

/-! ### What one item writes -/
def putI (most : Int) (st : Oct.Ws) (x : Itm) : Oct.Ws := if x.kind = 0 then Oct.put most st (Oct.natO x.num) [] else if x.kind = 1 then Oct.put most st (Oct.zigO x.num) [] else if x.kind = 2 then Oct.put most st (some x.txt.size) x.txt.data.toList else st
def codeI (most : Int) (st : Oct.Ws) (x : Itm) : Int := if x.kind = 0 ∨ x.kind = 1 ∨ x.kind = 2 then (putI most st x).2 else 0

def WriPost (O : Nat → Prop) (b : Nat) (most : Int) (st : Oct.Ws) (x : Itm) (w : World) (e : Ending) (w' : World) : Prop :=
  e = .returned (.int .i64 (codeI most st x)) ∧ ∃ O', Wr w' O' b most (putI most st x) ∧ Grew w O O' ∧ Only O w w'

theorem WriPost.of {O : Nat → Prop} {b : Nat} {most : Int} {st : Oct.Ws} {x : Itm} {w w1 : World} {e : Ending} {w' : World} (hk : Kept w w1) (h1 : codeI most st x = (putI most st x).2) (h : WrPost O b most (putI most st x) w1 e w') : WriPost O b most st x w e w' := by
  obtain ⟨he, O', hw, hg, ho⟩ := h
  refine ⟨by rw [he, h1], O', hw, fun k h => ?_, (Only.of_kept hk).trans ho⟩
  rcases hg k h with h | h
  · exact .inl h
  · exact .inr (Nat.le_trans hk.size h)

theorem writes_c (O : Nat → Prop) (b : Nat) (most : Int) (st : Oct.Ws) (x : Itm) (w : World) (hx : x.ok) (hs : x.txt.size ≤ 1099511627776) (h : Wr w O b most st) :
    Calls Try.prog 29 #[.pointer (some ⟨b, 0, none⟩), .agg #[.int .i64 x.kind, .int .i64 x.num, .string x.txt]] w (WriPost O b most st x w) := by
  obtain ⟨kind, num, txt⟩ := x
  obtain ⟨⟨a1, a2⟩, ⟨a3, a4⟩, a5⟩ := hx
  dsimp only at *
  have hk : Kept w (w.alloc (.cells #[.int .i64 kind, .int .i64 num, .string txt] 33)) := (Kept.refl w).alloc _
  have HK := Lib.hid hk
  have HW := Lib.hid (h.kept hk)
  clear hk h
  by_cases h0 : kind = 0
  · subst h0
    have HC := Lib.hid (numW_c O b most st num _ a4 HW.out)
    go_enter Try.func29, Try.ntmps29
    go_wp2_with fail
    refine HC.out.mono ?_
    intro e w' hp
    obtain ⟨c, rfl⟩ := WrPost.int e w' hp
    have HP := Lib.hid (WriPost.of (x := ⟨0, num, txt⟩) HK.out (by unfold codeI; rw [if_pos (by simp)]) hp)
    clear hp
    go_wp2_with fail
    go_ret
    exact HP.out
  by_cases h1 : kind = 1
  · subst h1
    have HC := Lib.hid (wholeW_c O b most st num _ a3 a4 HW.out)
    clear h0
    go_enter Try.func29, Try.ntmps29
    go_wp2_with fail
    refine HC.out.mono ?_
    intro e w' hp
    obtain ⟨c, rfl⟩ := WrPost.int e w' hp
    have HP := Lib.hid (WriPost.of (x := ⟨1, num, txt⟩) HK.out (by unfold codeI; rw [if_pos (by simp)]) hp)
    clear hp
    go_wp2_with fail
    go_ret
    exact HP.out
  by_cases h2 : kind = 2
  · subst h2
    have HC := Lib.hid (wordW_c O b most st txt _ hs HW.out)
    clear h0 h1
    go_enter Try.func29, Try.ntmps29
    go_wp2_with fail
    refine HC.out.mono ?_
    intro e w' hp
    obtain ⟨c, rfl⟩ := WrPost.int e w' hp
    have HP := Lib.hid (WriPost.of (x := ⟨2, num, txt⟩) HK.out (by unfold codeI; rw [if_pos (by simp)]) hp)
    clear hp
    go_wp2_with fail
    go_ret
    exact HP.out
  · have HP := Lib.hid (show WriPost O b most st ⟨kind, num, txt⟩ w (.returned (.int .i64 0)) (w.alloc (.cells #[.int .i64 kind, .int .i64 num, .string txt] 33)) from
      ⟨by unfold codeI; rw [if_neg (by simp [h0, h1, h2])], O, by unfold putI; rw [if_neg h0, if_neg h1, if_neg h2]; exact HW.out, fun k h => .inl h, Only.of_kept HK.out⟩)
    have h0' : (kind == 0) = false := by simpa using h0
    have h1' : (kind == 1) = false := by simpa using h1
    have h2' : (kind == 2) = false := by simpa using h2
    clear h0 h1 h2
    go_enter Try.func29, Try.ntmps29
    go_wp2
    go_ret
    exact HP.out
end Go.Proofs.Ytfbbhkhingfdeaa
