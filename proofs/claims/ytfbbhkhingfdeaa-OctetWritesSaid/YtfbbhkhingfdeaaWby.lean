/- Contracts of slices.Clone at bytes, and of octet's Bytes. -/
import Derived.Test.YtfbbhkhingfdeaaWme
set_option linter.unusedSimpArgs false
set_option linter.unusedVariables false
namespace Go.Proofs.Ytfbbhkhingfdeaa
open Go.ChangeShapes Go.WideShapes Go.ChangeAt Go.RowKit

/-- Bytes that were handed over: a slice of its own, in new memory if it has any; and nothing that was there has turned. -/
def NewRow (bs : List UInt8) (w : World) (v : Value) (w' : World) : Prop := Row w' v bs ∧ Kept w w' ∧ (∀ g, v.ownBlock = some g → w.heap.size ≤ g)

theorem sl_nil (w : World) : (binOp .eql 36 (.slice none 0 0) (.slice none 0 0)).run Try.prog w = .ok (.bool true) w := by
  have hr : ∀ n, (Op.equalIn (n + 1) 36 (.slice none 0 0) (.slice none 0 0)).run Try.prog w = .ok true w := fun n => by
    simp [Op.equalIn, run_underlying Try.underlying36]
  have h := hr 9999
  simp only [binOp]
  simp [Op.equal, Op.maxDepth, h]
theorem sl_not (a : Addr) (n c : Nat) (w : World) : (binOp .eql 36 (.slice (some a) n c) (.slice none 0 0)).run Try.prog w = .ok (.bool false) w := by
  have hr : ∀ m, (Op.equalIn (m + 1) 36 (.slice (some a) n c) (.slice none 0 0)).run Try.prog w = .ok false w := fun m => by
    simp [Op.equalIn, run_underlying Try.underlying36]
  have h := hr 9999
  simp only [binOp]
  simp [Op.equal, Op.maxDepth, h]

theorem row_empty (w : World) : Row (w.alloc (.cells #[] 5)) (.slice (some ⟨w.heap.size, 0, none⟩) 0 0) [] :=
  World.ownsRow_made w #[] 0 (Nat.zero_le _) (by unfold maxLen; omega) rfl

/-- An append onto a new empty slice. -/
theorem newRow_app {bs : List UInt8} {w w1 : World} {v' : Value} (hr : Row w1 v' ([] ++ bs)) (hg : (w.alloc (.cells #[] 5)).grownBy w1 (some w.heap.size)) (hl : v'.ownBlock = some w.heap.size ∨ v'.ownBlock = some (w.alloc (.cells #[] 5)).heap.size) : NewRow bs w v' w1 := by
  refine ⟨hr, ?_, ?_⟩
  · exact ((((Only.refl (fun _ => False) w).alloc _).grown hg fun k e => .inr (by cases e; exact Nat.le_refl _)).kept fun _ _ h => h)
  · intro g e
    rcases hl with h | h
    · rw [h] at e; cases e; exact Nat.le_refl _
    · rw [h] at e; cases e; simp

/-- A function that copies: its one result. -/
def CopyPost (bs : List UInt8) (w : World) (e : Ending) (w' : World) : Prop := ∃ v', e = .returned v' ∧ NewRow bs w v' w'

theorem clone_c (v : Value) (bs : List UInt8) (w : World) (hl : bs.length ≤ 1099511627776) (hr : Row w v bs) :
    Calls Try.prog 37 #[v] w (CopyPost bs w) := by
  rcases id hr.2 with ⟨rfl, h0⟩ | ⟨g, cap, cur, rfl, _⟩
  · obtain rfl : bs = [] := List.eq_nil_of_length_eq_zero h0
    have hn := sl_nil
    have HP := Lib.hid (show CopyPost [] w (.returned (.slice none 0 0)) w from ⟨_, rfl, hr, Kept.refl w, fun g h => by cases h⟩)
    clear hr h0
    go_enter Try.func37, Try.ntmps37
    go_wp2
    go_ret
    exact HP.out
  · have hn := sl_not
    have hk : Kept w (w.alloc (.cells #[] 5)) := (Kept.refl w).alloc _
    have HY := Lib.hid (hr.only (S := fun _ => False) (Only.of_kept hk) (fun _ _ h => h)).yields
    have HB := Lib.hid (row_empty w)
    have HL := Lib.hid (show ([] : List UInt8).length + bs.length ≤ 70368744177664 by simp; omega)
    generalize bs.length = n at hr HY
    clear hr hl hk
    go_enter Try.func37, Try.ntmps37
    go_wp2_with (at_builtin; refine wpList_app rfl (.tmp 5) (.tmp 6) 36 rfl rfl HB.out rfl HY.out HL.out ?_; intro v' w1 hr1 hg1 hl1; have HP := Lib.hid (newRow_app hr1 hg1 hl1); clear hr1 hg1 hl1)
    go_ret
    exact ⟨_, rfl, HP.out⟩

/-- What Bytes returns. -/
def BytesPost (st : Oct.Ws) (w : World) (e : Ending) (w' : World) : Prop :=
  (st.2 = 0 ∧ ∃ v, e = .returned (.tuple #[v, .int .i64 0]) ∧ NewRow st.1 w v w') ∨ (st.2 ≠ 0 ∧ e = .returned (.tuple #[.slice none 0 0, .int .i64 st.2]) ∧ Kept w w')

theorem bytesW_c (O : Nat → Prop) (b : Nat) (most : Int) (st : Oct.Ws) (w : World) (h : Wr w O b most st) :
    Calls Try.prog 18 #[.pointer (some ⟨b, 0, none⟩)] w (BytesPost st w) := by
  obtain ⟨bs0, e⟩ := st
  obtain ⟨v, bs, h1, h2, h3, h4, h5, h6⟩ := h
  have HV := Lib.hid (validW_t b most v e w h1)
  have c3 := h1.cell 3
  have c2 := h1.cell 2
  simp at c3 c2
  by_cases he : e = 0
  · subst he
    obtain ⟨rfl, hlen⟩ := h3 rfl
    have HC := Lib.hid (clone_c v bs w (by omega) h2)
    clear h1 h2 h3 h4 h5 h6 hlen
    go_enter Try.func18, Try.ntmps18
    go_wp2_with fail
    refine HV.out.mono ?_
    rintro r w' ⟨rfl, rfl⟩
    go_wp2_with fail
    refine HC.out.mono ?_
    rintro r w1 ⟨v', rfl, hn⟩
    have HP := Lib.hid hn
    clear hn
    go_wp2_with fail
    go_ret2
    exact .inl ⟨rfl, _, rfl, HP.out⟩
  · have he' : (e != 0) = true := by simpa using he
    have HE := Lib.hid he
    clear h1 h2 h3 h4 h5 h6 he
    go_enter Try.func18, Try.ntmps18
    go_wp2_with fail
    refine HV.out.mono ?_
    rintro r w' ⟨rfl, rfl⟩
    go_wp2_with fail
    go_quiet (fail)
    go_wp2
    go_ret2
    exact .inr ⟨HE.out, rfl, (Kept.refl w).drewN _⟩

theorem bytesW_f (q : Option Addr) (w : World) (h : BadW w q) :
    Calls Try.prog 18 #[.pointer q] w fun r w' => r = .returned (.tuple #[.slice none 0 0, .int .i64 1]) ∧ Kept w w' := by
  have HV := Lib.hid (validW_f q w h)
  clear h
  go_enter Try.func18, Try.ntmps18
  go_wp2_with fail
  refine HV.out.mono ?_
  rintro r w' ⟨rfl, rfl⟩
  go_wp2_with fail
  go_ret2
  exact ⟨rfl, Kept.refl w⟩
end Go.Proofs.Ytfbbhkhingfdeaa
