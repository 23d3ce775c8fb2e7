/- Contracts of words.Tag and words.OfTag: the table of the base types, searched. What was in the world stays as it was. -/
import Derived.Test.YtnjgagbblkjjeaaGreatDoorKey
import Derived.Laws.Rows
set_option linter.unusedSimpArgs false
set_option linter.unusedVariables false
set_option maxRecDepth 100000
namespace Go.Proofs.YtnjgagbblkjjeaaGreatDoor
open Go.ChangeShapes Go.WideShapes Go.ChangeAt Go.RowKit

theorem tagF_yes {b s : ByteArray} {r : List ByteArray} {k : Nat} (h : b = s) : Wrd.tagF (b :: r) k s = k := by rw [Wrd.tagF, if_pos h]
theorem tagF_no {b s : ByteArray} {r : List ByteArray} {k : Nat} (h : ¬ b = s) : Wrd.tagF (b :: r) k s = Wrd.tagF r (k + 1) s := by rw [Wrd.tagF, if_neg h]
theorem has_yes {b s : ByteArray} {r : List ByteArray} (h : b = s) : Wrd.has (b :: r) s = true := by unfold Wrd.has; simp [h]
theorem has_next {b s : ByteArray} {r : List ByteArray} (h : ¬ b = s) : Wrd.has (b :: r) s = Wrd.has r s := by unfold Wrd.has; simp [h]

abbrev bagg (b0 b1 b2 b3 b4 : ByteArray) : Value := .agg #[.string b0, .int .i64 1, .string b1, .int .i64 2, .string b2, .int .i64 3, .string b3, .int .i64 4, .string b4, .int .i64 5]

theorem bidx_0 (b0 b1 b2 b3 b4 : ByteArray) (W : World) : (Instr.index 257 (bagg b0 b1 b2 b3 b4) (.int .i64 0)).run Tryz.prog W = .ok (.agg #[.string b0, .int .i64 1]) W := rfl

theorem bidx_1 (b0 b1 b2 b3 b4 : ByteArray) (W : World) : (Instr.index 257 (bagg b0 b1 b2 b3 b4) (.int .i64 1)).run Tryz.prog W = .ok (.agg #[.string b1, .int .i64 2]) W := rfl

theorem bidx_2 (b0 b1 b2 b3 b4 : ByteArray) (W : World) : (Instr.index 257 (bagg b0 b1 b2 b3 b4) (.int .i64 2)).run Tryz.prog W = .ok (.agg #[.string b2, .int .i64 3]) W := rfl

theorem bidx_3 (b0 b1 b2 b3 b4 : ByteArray) (W : World) : (Instr.index 257 (bagg b0 b1 b2 b3 b4) (.int .i64 3)).run Tryz.prog W = .ok (.agg #[.string b3, .int .i64 4]) W := rfl

theorem bidx_4 (b0 b1 b2 b3 b4 : ByteArray) (W : World) : (Instr.index 257 (bagg b0 b1 b2 b3 b4) (.int .i64 4)).run Tryz.prog W = .ok (.agg #[.string b4, .int .i64 5]) W := rfl

/-- What Tag answers. -/
def TagPost (bl : List ByteArray) (s : ByteArray) (w : World) (e : Ending) (w' : World) : Prop :=
  e = .returned (.tuple #[.int .i64 (Wrd.tagF bl 1 s), .int .i64 (if Wrd.has bl s then 0 else 7)]) ∧ Kept w w'

set_option maxHeartbeats 2000000 in
theorem tag_g (b0 b1 b2 b3 b4 s : ByteArray) (w : World) (t : TypeId) (fr : Nat × Nat)
    (hc : w.heap[2]? = some (.cells #[.string b0, .int .i64 1, .string b1, .int .i64 2, .string b2, .int .i64 3, .string b3, .int .i64 4, .string b4, .int .i64 5] t fr)) :
    Calls Tryz.prog 228 #[.string s] w (TagPost [b0, b1, b2, b3, b4] s w) := by
  have c0 := cell_of_row w _ 0 _ t fr hc
  have c1 := cell_of_row w _ 1 _ t fr hc
  have c2 := cell_of_row w _ 2 _ t fr hc
  have c3 := cell_of_row w _ 3 _ t fr hc
  have c4 := cell_of_row w _ 4 _ t fr hc
  have c5 := cell_of_row w _ 5 _ t fr hc
  have c6 := cell_of_row w _ 6 _ t fr hc
  have c7 := cell_of_row w _ 7 _ t fr hc
  have c8 := cell_of_row w _ 8 _ t fr hc
  have c9 := cell_of_row w _ 9 _ t fr hc
  simp at c0 c1 c2 c3 c4 c5 c6 c7 c8 c9
  clear hc
  go_enter Tryz.func228, Tryz.ntmps228
  go_wp2
  clear c0 c1 c2 c3 c4 c5 c6 c7 c8 c9
  go_loopw [7] (fun i wr => ∃ k : Nat, k ≤ 5 ∧ i = .int .i64 k ∧ Kept w wr ∧ (Wrd.tagF [b0, b1, b2, b3, b4] 1 s = Wrd.tagF ([b0, b1, b2, b3, b4].drop k) (k + 1) s ∧ Wrd.has [b0, b1, b2, b3, b4] s = Wrd.has ([b0, b1, b2, b3, b4].drop k) s))
    (fun i wr => 5 - (intOf i).toNat)
  case atStart => exact ⟨0, by omega, rfl, Kept.refl _, rfl, rfl⟩
  case round =>
    obtain ⟨k, hk, rfl, hkp, he⟩ := hrel
    have hk' : k = 0 ∨ k = 1 ∨ k = 2 ∨ k = 3 ∨ k = 4 ∨ k = 5 := by omega
    rcases hk' with rfl | rfl | rfl | rfl | rfl | rfl
    · have hi := bidx_0 b0 b1 b2 b3 b4 wr
      by_cases hx : b0 = s
      · have HE := Lib.hid (show Wrd.tagF [b0, b1, b2, b3, b4] 1 s = 1 ∧ Wrd.has [b0, b1, b2, b3, b4] s = true by rw [he.1, he.2]; exact ⟨tagF_yes hx, has_yes hx⟩)
        have hb : (b0.toList == s.toList) = true := by rw [hx]; exact beq_self_eq_true _
        clear hx he
        go_wp2
        go_ret2
        exact ⟨by rw [HE.out.1, HE.out.2]; rfl, (hkp.alloc _)⟩
      · have HE := Lib.hid (show Wrd.tagF [b0, b1, b2, b3, b4] 1 s = Wrd.tagF ([b0, b1, b2, b3, b4].drop 1) (1 + 1) s ∧ Wrd.has [b0, b1, b2, b3, b4] s = Wrd.has ([b0, b1, b2, b3, b4].drop 1) s by rw [he.1, he.2]; exact ⟨tagF_no hx, has_next hx⟩)
        have hb := beq_no hx
        clear hx he
        go_wp2
        go_roundw
        case rel => exact ⟨1, by omega, rfl, (hkp.alloc _), HE.out⟩
        case measure => simp [intOf]
    · have hi := bidx_1 b0 b1 b2 b3 b4 wr
      by_cases hx : b1 = s
      · have HE := Lib.hid (show Wrd.tagF [b0, b1, b2, b3, b4] 1 s = 2 ∧ Wrd.has [b0, b1, b2, b3, b4] s = true by rw [he.1, he.2]; exact ⟨tagF_yes hx, has_yes hx⟩)
        have hb : (b1.toList == s.toList) = true := by rw [hx]; exact beq_self_eq_true _
        clear hx he
        go_wp2
        go_ret2
        exact ⟨by rw [HE.out.1, HE.out.2]; rfl, (hkp.alloc _)⟩
      · have HE := Lib.hid (show Wrd.tagF [b0, b1, b2, b3, b4] 1 s = Wrd.tagF ([b0, b1, b2, b3, b4].drop 2) (2 + 1) s ∧ Wrd.has [b0, b1, b2, b3, b4] s = Wrd.has ([b0, b1, b2, b3, b4].drop 2) s by rw [he.1, he.2]; exact ⟨tagF_no hx, has_next hx⟩)
        have hb := beq_no hx
        clear hx he
        go_wp2
        go_roundw
        case rel => exact ⟨2, by omega, rfl, (hkp.alloc _), HE.out⟩
        case measure => simp [intOf]
    · have hi := bidx_2 b0 b1 b2 b3 b4 wr
      by_cases hx : b2 = s
      · have HE := Lib.hid (show Wrd.tagF [b0, b1, b2, b3, b4] 1 s = 3 ∧ Wrd.has [b0, b1, b2, b3, b4] s = true by rw [he.1, he.2]; exact ⟨tagF_yes hx, has_yes hx⟩)
        have hb : (b2.toList == s.toList) = true := by rw [hx]; exact beq_self_eq_true _
        clear hx he
        go_wp2
        go_ret2
        exact ⟨by rw [HE.out.1, HE.out.2]; rfl, (hkp.alloc _)⟩
      · have HE := Lib.hid (show Wrd.tagF [b0, b1, b2, b3, b4] 1 s = Wrd.tagF ([b0, b1, b2, b3, b4].drop 3) (3 + 1) s ∧ Wrd.has [b0, b1, b2, b3, b4] s = Wrd.has ([b0, b1, b2, b3, b4].drop 3) s by rw [he.1, he.2]; exact ⟨tagF_no hx, has_next hx⟩)
        have hb := beq_no hx
        clear hx he
        go_wp2
        go_roundw
        case rel => exact ⟨3, by omega, rfl, (hkp.alloc _), HE.out⟩
        case measure => simp [intOf]
    · have hi := bidx_3 b0 b1 b2 b3 b4 wr
      by_cases hx : b3 = s
      · have HE := Lib.hid (show Wrd.tagF [b0, b1, b2, b3, b4] 1 s = 4 ∧ Wrd.has [b0, b1, b2, b3, b4] s = true by rw [he.1, he.2]; exact ⟨tagF_yes hx, has_yes hx⟩)
        have hb : (b3.toList == s.toList) = true := by rw [hx]; exact beq_self_eq_true _
        clear hx he
        go_wp2
        go_ret2
        exact ⟨by rw [HE.out.1, HE.out.2]; rfl, (hkp.alloc _)⟩
      · have HE := Lib.hid (show Wrd.tagF [b0, b1, b2, b3, b4] 1 s = Wrd.tagF ([b0, b1, b2, b3, b4].drop 4) (4 + 1) s ∧ Wrd.has [b0, b1, b2, b3, b4] s = Wrd.has ([b0, b1, b2, b3, b4].drop 4) s by rw [he.1, he.2]; exact ⟨tagF_no hx, has_next hx⟩)
        have hb := beq_no hx
        clear hx he
        go_wp2
        go_roundw
        case rel => exact ⟨4, by omega, rfl, (hkp.alloc _), HE.out⟩
        case measure => simp [intOf]
    · have hi := bidx_4 b0 b1 b2 b3 b4 wr
      by_cases hx : b4 = s
      · have HE := Lib.hid (show Wrd.tagF [b0, b1, b2, b3, b4] 1 s = 5 ∧ Wrd.has [b0, b1, b2, b3, b4] s = true by rw [he.1, he.2]; exact ⟨tagF_yes hx, has_yes hx⟩)
        have hb : (b4.toList == s.toList) = true := by rw [hx]; exact beq_self_eq_true _
        clear hx he
        go_wp2
        go_ret2
        exact ⟨by rw [HE.out.1, HE.out.2]; rfl, (hkp.alloc _)⟩
      · have HE := Lib.hid (show Wrd.tagF [b0, b1, b2, b3, b4] 1 s = Wrd.tagF ([b0, b1, b2, b3, b4].drop 5) (5 + 1) s ∧ Wrd.has [b0, b1, b2, b3, b4] s = Wrd.has ([b0, b1, b2, b3, b4].drop 5) s by rw [he.1, he.2]; exact ⟨tagF_no hx, has_next hx⟩)
        have hb := beq_no hx
        clear hx he
        go_wp2
        go_roundw
        case rel => exact ⟨5, by omega, rfl, (hkp.alloc _), HE.out⟩
        case measure => simp [intOf]
    · have HE := Lib.hid (show Wrd.tagF [b0, b1, b2, b3, b4] 1 s = 0 ∧ Wrd.has [b0, b1, b2, b3, b4] s = false by rw [he.1, he.2]; exact ⟨rfl, rfl⟩)
      clear he
      go_wp2
      go_ret2
      exact ⟨by rw [HE.out.1, HE.out.2]; rfl, hkp⟩

theorem tag_c (s : ByteArray) (w : World) (hT : Tb w) :
    Calls Tryz.prog 228 #[.string s] w fun e w' => e = .returned (.tuple #[.int .i64 (Wrd.tag s), .int .i64 (Wrd.tagE s)]) ∧ Kept w w' := by
  obtain ⟨⟨t, fr, h⟩, _⟩ := hT
  exact tag_g _ _ _ _ _ s w t fr h

/-- What OfTag answers. -/
def OfPost (bl : List ByteArray) (n : Int) (w : World) (e : Ending) (w' : World) : Prop :=
  e = .returned (.tuple #[.string (Wrd.ofF bl 1 n).1, .int .i64 (Wrd.ofF bl 1 n).2]) ∧ Kept w w'

end Go.Proofs.YtnjgagbblkjjeaaGreatDoor
