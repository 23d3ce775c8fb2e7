/- Contracts of Do and Neg, in ints and in the document's answers, at whatever operation and numbers. What was in the world stays as it was. -/
import Derived.Test.YtcaailiijmjdlaaGreatDoorIdo
import Derived.Test.YtcaailiijmjdlaaGreatDoorIpl
set_option linter.unusedSimpArgs false
set_option linter.unusedVariables false
namespace Go.Proofs.YtcaailiijmjdlaaGreatDoor
open Go.ChangeShapes Go.WideShapes Go.ChangeAt Go.RowKit

theorem doR_c (s : ByteArray) (a b : Int) (hs : s.size ≤ maxLen) (w : World) : Calls Tryz.prog 40 #[.string s, .int .i64 a, .int .i64 b] w fun e w' => e = .returned (.tuple #[.int .i64 (doV s.data.toList a b), .int .i64 (doE s.data.toList b)]) ∧ Kept w w' := by
  rcases op_cases s with rfl | rfl | rfl | rfl | rfl | ⟨h1, h2, h3, h4, h5⟩
  · exact doR_add a b w
  · exact doR_sub a b w
  · exact doR_mul a b w
  · by_cases hb : b = 0
    · subst hb; exact doR_quo0 a w
    · have e1 : doV (⟨#[47]⟩ : ByteArray).data.toList a b = wrap64 (a.tdiv b) := by show (if b = 0 then 0 else wrap64 (a.tdiv b)) = _; rw [if_neg hb]
      have e2 : doE (⟨#[47]⟩ : ByteArray).data.toList b = 0 := by show (if b = 0 then 3 else 0) = (0 : Int); rw [if_neg hb]
      rw [e1, e2]; exact doR_quo a b hb w
  · by_cases hb : b = 0
    · subst hb; exact doR_rem0 a w
    · have e1 : doV (⟨#[37]⟩ : ByteArray).data.toList a b = a.tmod b := by show (if b = 0 then 0 else a.tmod b) = _; rw [if_neg hb]
      have e2 : doE (⟨#[37]⟩ : ByteArray).data.toList b = 0 := by show (if b = 0 then 3 else 0) = (0 : Int); rw [if_neg hb]
      rw [e1, e2]; exact doR_rem a b hb w
  · rw [ByteArray.toList_eq s] at h1 h2 h3 h4 h5
    have e1 : doV s.data.toList a b = 0 := by unfold doV; simp only [h1, h2, h3, h4, h5]; rfl
    have e2 : doE s.data.toList b = 2 := by unfold doE; simp only [h1, h2, h3, h4, h5]; rfl
    rw [e1, e2]
    obtain ⟨k1, k2⟩ := ops_none h1 h2 h3 h4 h5
    exact doR_none s a b w hs k1 k2

theorem inegR_c (a : Int) (w : World) : Calls Tryz.prog 140 #[.int .i64 a] w fun e w' => e = .returned (.int .i64 (wrap64 (-a))) ∧ w = w' := by
  go_enter Tryz.func140, Tryz.ntmps140
  go_wp2
  go_ret
  exact ⟨rfl, rfl⟩

theorem iret_i64 {a b : Int} (h : a = b) : Ending.returned (.int .i64 a) = .returned (.int .i64 b) := by rw [h]
theorem iret_u64 {a b : Int} (h : a = b) : Ending.returned (.int .u64 a) = .returned (.int .u64 b) := by rw [h]
theorem ret_2 {a b c : Int} (h : a = b) : Ending.returned (.tuple #[.int .i64 a, .int .i64 c]) = .returned (.tuple #[.int .i64 b, .int .i64 c]) := by rw [h]

theorem inegS_c (a : Int) (w : World) : Calls Tryz.prog 61 #[.int .i64 a] w fun e w' => e = .returned (.int .i64 (wrap64 (-a))) ∧ w = w' := by
  go_enter Tryz.func61, Tryz.ntmps61
  go_wp2
  go_ret
  exact ⟨iret_i64 (neg_w a), rfl⟩

theorem far_c (a : Int) (h1 : -9223372036854775808 ≤ a) (h2 : a ≤ 9223372036854775807) (w : World) : Calls Tryz.prog 105 #[.int .i64 a] w fun e w' => e = .returned (.int .u64 (a.natAbs : Nat)) ∧ w' = w := by
  by_cases h : a < 0
  · have e := Lib.hid (neg_u a h1 h)
    go_enter Tryz.func105, Tryz.ntmps105
    go_wp2
    go_ret
    exact ⟨iret_u64 e.out, rfl⟩
  · have e := Lib.hid (show a = (a.natAbs : Int) by omega)
    go_enter Tryz.func105, Tryz.ntmps105
    go_wp2
    go_ret
    exact ⟨iret_u64 e.out, rfl⟩

theorem doS_add (a b : Int) (w : World) : Calls Tryz.prog 60 #[.string ⟨#[43]⟩, .int .i64 a, .int .i64 b] w fun e w' => e = .returned (.tuple #[.int .i64 (wrap64 (a + b)), .int .i64 0]) ∧ Kept w w' := by
  go_enter Tryz.func60, Tryz.ntmps60
  go_wp2
  go_ret2
  exact ⟨ret_2 (add_w a b), Kept.refl w⟩

theorem doS_sub (a b : Int) (w : World) : Calls Tryz.prog 60 #[.string ⟨#[45]⟩, .int .i64 a, .int .i64 b] w fun e w' => e = .returned (.tuple #[.int .i64 (wrap64 (a - b)), .int .i64 0]) ∧ Kept w w' := by
  go_enter Tryz.func60, Tryz.ntmps60
  go_wp2
  go_ret2
  exact ⟨ret_2 (sub_w a b), Kept.refl w⟩

theorem doS_mul (a b : Int) (w : World) : Calls Tryz.prog 60 #[.string ⟨#[42]⟩, .int .i64 a, .int .i64 b] w fun e w' => e = .returned (.tuple #[.int .i64 (wrap64 (a * b)), .int .i64 0]) ∧ Kept w w' := by
  go_enter Tryz.func60, Tryz.ntmps60
  go_wp2
  go_ret2
  exact ⟨ret_2 (mul_w a b), Kept.refl w⟩

theorem doS_quo0 (a : Int) (w : World) : Calls Tryz.prog 60 #[.string ⟨#[47]⟩, .int .i64 a, .int .i64 0] w fun e w' => e = .returned (.tuple #[.int .i64 0, .int .i64 3]) ∧ Kept w w' := by
  go_enter Tryz.func60, Tryz.ntmps60
  go_wp2
  go_ret2
  exact ⟨rfl, Kept.refl w⟩

theorem doS_rem0 (a : Int) (w : World) : Calls Tryz.prog 60 #[.string ⟨#[37]⟩, .int .i64 a, .int .i64 0] w fun e w' => e = .returned (.tuple #[.int .i64 0, .int .i64 3]) ∧ Kept w w' := by
  go_enter Tryz.func60, Tryz.ntmps60
  go_wp2
  go_ret2
  exact ⟨rfl, Kept.refl w⟩

theorem doS_none (s : ByteArray) (a b : Int) (w : World) (h1 : (s.toList == [43]) = false) (h2 : (s.toList == [45]) = false) (h3 : (s.toList == [42]) = false) (h4 : (s.toList == [47]) = false) (h5 : (s.toList == [37]) = false) : Calls Tryz.prog 60 #[.string s, .int .i64 a, .int .i64 b] w fun e w' => e = .returned (.tuple #[.int .i64 0, .int .i64 2]) ∧ Kept w w' := by
  go_enter Tryz.func60, Tryz.ntmps60
  go_wp2
  go_ret2
  exact ⟨rfl, Kept.refl w⟩

theorem kept_drew (w : World) (n : Nat) : Kept w (w.drewN n) := ⟨rfl, rfl, Nat.le_refl _, fun _ _ => rfl⟩

theorem doS_quo (a b : Int) (hb : b ≠ 0) (h1 : -9223372036854775808 ≤ a) (h2 : a ≤ 9223372036854775807) (h3 : -9223372036854775808 ≤ b) (h4 : b ≤ 9223372036854775807) (w : World) : Calls Tryz.prog 60 #[.string ⟨#[47]⟩, .int .i64 a, .int .i64 b] w fun e w' => e = .returned (.tuple #[.int .i64 (wrap64 (a.tdiv b)), .int .i64 0]) ∧ Kept w w' := by
  have hz : (b == 0) = false := by simpa using hb
  have g : (1 : Int) ≤ (b.natAbs : Int) := by omega
  have g2 : (a.natAbs : Int) ≤ 9223372036854775808 := by omega
  have g3 : (b.natAbs : Int) ≤ 9223372036854775808 := by omega
  have HT := Lib.hid (tdiv_abs a b)
  clear hb
  by_cases ha : a < 0 <;> by_cases hb : b < 0
  all_goals
    first | (have ka : decide (a < 0) = true := decide_eq_true ha) | (have ka : decide (a < 0) = false := decide_eq_false ha)
    first | (have kb : decide (b < 0) = true := decide_eq_true hb) | (have kb : decide (b < 0) = false := decide_eq_false hb)
    go_enter Tryz.func60, Tryz.ntmps60
    go_wp2_with fail
    go_quiet ((go_at_call 105; exact Calls.quiet_of_same (far_c _ (by omega) (by omega) _)))
    go_wp2
    go_ret2
    refine ⟨ret_2 ?_, kept_drew w nq⟩
    rw [HT.out]
    first
      | (rw [if_pos (by omega), Int.natCast_ediv, u_w]; done)
      | (rw [if_neg (by omega), Int.natCast_ediv, neg_w]; done)

theorem doS_rem (a b : Int) (hb : b ≠ 0) (h1 : -9223372036854775808 ≤ a) (h2 : a ≤ 9223372036854775807) (h3 : -9223372036854775808 ≤ b) (h4 : b ≤ 9223372036854775807) (w : World) : Calls Tryz.prog 60 #[.string ⟨#[37]⟩, .int .i64 a, .int .i64 b] w fun e w' => e = .returned (.tuple #[.int .i64 (a.tmod b), .int .i64 0]) ∧ Kept w w' := by
  have hz : (b == 0) = false := by simpa using hb
  have g : (1 : Int) ≤ (b.natAbs : Int) := by omega
  have g2 : (a.natAbs : Int) ≤ 9223372036854775808 := by omega
  have g3 : (b.natAbs : Int) ≤ 9223372036854775808 := by omega
  have HT := Lib.hid (tmod_abs a b)
  clear hb
  by_cases ha : a < 0 <;> by_cases hb : b < 0
  all_goals
    first | (have ka : decide (a < 0) = true := decide_eq_true ha) | (have ka : decide (a < 0) = false := decide_eq_false ha)
    first | (have kb : decide (b < 0) = true := decide_eq_true hb) | (have kb : decide (b < 0) = false := decide_eq_false hb)
    go_enter Tryz.func60, Tryz.ntmps60
    go_wp2_with fail
    go_quiet ((go_at_call 105; exact Calls.quiet_of_same (far_c _ (by omega) (by omega) _)))
    go_wp2
    go_ret2
    refine ⟨ret_2 ?_, kept_drew w nq⟩
    rw [HT.out]
    have hr := Int.emod_nonneg (a.natAbs : Int) (show (b.natAbs : Int) ≠ 0 by omega)
    have hr2 := Int.emod_lt_of_pos (a.natAbs : Int) (show 0 < (b.natAbs : Int) by omega)
    first
      | (rw [if_pos (by omega), Int.natCast_emod, u_w, w_in (by omega) (by omega)]; done)
      | (rw [if_neg (by omega), Int.natCast_emod, w_in (by omega) (by omega)]; done)

theorem doS_c (s : ByteArray) (a b : Int) (h1 : -9223372036854775808 ≤ a) (h2 : a ≤ 9223372036854775807) (h3 : -9223372036854775808 ≤ b) (h4 : b ≤ 9223372036854775807) (w : World) : Calls Tryz.prog 60 #[.string s, .int .i64 a, .int .i64 b] w fun e w' => e = .returned (.tuple #[.int .i64 (doV s.data.toList a b), .int .i64 (doE s.data.toList b)]) ∧ Kept w w' := by
  rcases op_cases s with rfl | rfl | rfl | rfl | rfl | ⟨k1, k2, k3, k4, k5⟩
  · exact doS_add a b w
  · exact doS_sub a b w
  · exact doS_mul a b w
  · by_cases hb : b = 0
    · subst hb; exact doS_quo0 a w
    · have e1 : doV (⟨#[47]⟩ : ByteArray).data.toList a b = wrap64 (a.tdiv b) := by show (if b = 0 then 0 else wrap64 (a.tdiv b)) = _; rw [if_neg hb]
      have e2 : doE (⟨#[47]⟩ : ByteArray).data.toList b = 0 := by show (if b = 0 then 3 else 0) = (0 : Int); rw [if_neg hb]
      rw [e1, e2]; exact doS_quo a b hb h1 h2 h3 h4 w
  · by_cases hb : b = 0
    · subst hb; exact doS_rem0 a w
    · have e1 : doV (⟨#[37]⟩ : ByteArray).data.toList a b = a.tmod b := by show (if b = 0 then 0 else a.tmod b) = _; rw [if_neg hb]
      have e2 : doE (⟨#[37]⟩ : ByteArray).data.toList b = 0 := by show (if b = 0 then 3 else 0) = (0 : Int); rw [if_neg hb]
      rw [e1, e2]; exact doS_rem a b hb h1 h2 h3 h4 w
  · have r := doS_none s a b w k1 k2 k3 k4 k5
    rw [ByteArray.toList_eq s] at k1 k2 k3 k4 k5
    have e1 : doV s.data.toList a b = 0 := by unfold doV; simp only [k1, k2, k3, k4, k5]; rfl
    have e2 : doE s.data.toList b = 2 := by unfold doE; simp only [k1, k2, k3, k4, k5]; rfl
    rw [e1, e2]
    exact r
end Go.Proofs.YtcaailiijmjdlaaGreatDoor
