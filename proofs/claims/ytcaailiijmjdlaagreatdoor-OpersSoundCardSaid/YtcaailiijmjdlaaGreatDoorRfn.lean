/- The document's answers for words: word, Name, Class, Base, Key, Kind, Type, Tag and OfTag. What was in the world stays as it was. -/
import Derived.Test.YtcaailiijmjdlaaGreatDoorTxl
set_option linter.unusedSimpArgs false
set_option linter.unusedVariables false
namespace Go.Proofs.YtcaailiijmjdlaaGreatDoor
open Go.ChangeShapes Go.WideShapes Go.ChangeAt Go.RowKit

theorem smallR_v (n : Nat) (v : Bool) (w : World) (h : Wrd.smB n = v) : Calls Tryz.prog 168 #[.int .u8 n] w fun e w' => e = .returned (.bool v) ∧ w = w' := by
  rcases two_le h with ⟨rfl, h1, h2⟩ | ⟨rfl, h1⟩ | ⟨rfl, h1, h2⟩
  all_goals
    clear h
    try have h3 : decide ((n : Int) ≤ 122) = true := decide_eq_true (by omega)
    try have h3 : decide ((n : Int) ≤ 122) = false := decide_eq_false (by omega)
    go_enter Tryz.func168, Tryz.ntmps168
    go_wp2
    go_ret
    exact ⟨rfl, rfl⟩

theorem greatR_v (n : Nat) (v : Bool) (w : World) (h : Wrd.caB n = v) : Calls Tryz.prog 157 #[.int .u8 n] w fun e w' => e = .returned (.bool v) ∧ w = w' := by
  rcases two_le h with ⟨rfl, h1, h2⟩ | ⟨rfl, h1⟩ | ⟨rfl, h1, h2⟩
  all_goals
    clear h
    try have h3 : decide ((n : Int) ≤ 90) = true := decide_eq_true (by omega)
    try have h3 : decide ((n : Int) ≤ 90) = false := decide_eq_false (by omega)
    go_enter Tryz.func157, Tryz.ntmps157
    go_wp2
    go_ret
    exact ⟨rfl, rfl⟩

/-- 1 to 20 letters and digits. -/
def wrd (s : ByteArray) : Bool := decide (1 ≤ s.size) && decide (s.size ≤ 20) && s.data.toList.all (fun c => Wrd.kd c != 3)

theorem spelt_wrd (s : ByteArray) (f : Nat) : Wrd.spelt s f = (wrd s && (Wrd.kd (s.data.toList.headD 0) == f)) := rfl
theorem wrd_pos {s : ByteArray} (h : wrd s = true) : 0 < s.size := by
  unfold wrd at h
  by_cases h1 : 1 ≤ s.size
  · exact h1
  · rw [decide_eq_false h1] at h; cases h
theorem wrd_len {s : ByteArray} (h : s.size < 1 ∨ 20 < s.size) : wrd s = false := by
  unfold wrd
  rcases h with h | h
  · rw [decide_eq_false (show ¬ 1 ≤ s.size by omega)]; rfl
  · rw [decide_eq_false (show ¬ s.size ≤ 20 by omega)]; simp
theorem wrd_at {s : ByteArray} {k : Nat} (hk : k < s.size) (h : Wrd.kd s[k] = 3) : wrd s = false := by
  have : s.data.toList.all (fun c => Wrd.kd c != 3) = false := by
    rw [List.all_eq_false]
    exact ⟨s[k], Wrd.at_mem hk, by rw [h]; decide⟩
  unfold wrd
  rw [this]; simp
theorem wrd_all {s : ByteArray} (h1 : 0 < s.size) (h2 : s.size ≤ 20) (ha : ∀ k (hk : k < s.size), Wrd.kd s[k] ≠ 3) : wrd s = true := by
  have e3 : s.data.toList.all (fun c => Wrd.kd c != 3) = true := by
    rw [List.all_eq_true]
    intro c hc
    obtain ⟨k, hk, rfl⟩ := Wrd.mem_at hc
    simpa using ha k hk
  unfold wrd
  rw [decide_eq_true (show 1 ≤ s.size from h1), decide_eq_true h2, e3]; rfl

/-- The first k letters are letters. -/
def WdR (s : ByteArray) (k : Nat) : Prop := ∀ j (hj : j < s.size), j < k → Wrd.kd s[j] ≠ 3
theorem WdR.next {s : ByteArray} {k : Nat} (h : WdR s k) (hk : k < s.size) (h3 : Wrd.kd s[k] ≠ 3) : WdR s (k + 1) := by
  intro j hj hjk
  by_cases e : j = k
  · subst e; exact h3
  · exact h j hj (by omega)

theorem kd_a {c : UInt8} (h : Wrd.smB c.toNat = true) : Wrd.kd c ≠ 3 := by unfold Wrd.kd; rw [if_pos h]; decide
theorem kd_b {c : UInt8} (ha : Wrd.smB c.toNat = false) (h : Wrd.caB c.toNat = true) : Wrd.kd c ≠ 3 := by unfold Wrd.kd; rw [if_neg (by rw [ha]; decide), if_pos h]; decide
theorem kd_d {c : UInt8} (ha : Wrd.smB c.toNat = false) (hb : Wrd.caB c.toNat = false) (h : Wrd.diB c.toNat = true) : Wrd.kd c ≠ 3 := by unfold Wrd.kd; rw [if_neg (by rw [ha]; decide), if_neg (by rw [hb]; decide), if_pos h]; decide
theorem kd_n {c : UInt8} (ha : Wrd.smB c.toNat = false) (hb : Wrd.caB c.toNat = false) (h : Wrd.diB c.toNat = false) : Wrd.kd c = 3 := by unfold Wrd.kd; rw [ha, hb, h]; rfl

set_option maxHeartbeats 2000000 in
theorem wordR_c (s : ByteArray) (w : World) (hs : s.size ≤ 9223372036854775807) :
    Calls Tryz.prog 156 #[.string s] w fun e w' => e = .returned (.bool (wrd s)) ∧ w = w' := by
  by_cases h1 : s.size < 1
  · have HE := Lib.hid (wrd_len (s := s) (.inl h1))
    have hz : (s.size : Int) < 1 := by omega
    go_enter Tryz.func156, Tryz.ntmps156
    go_wp2
    go_ret
    exact ⟨by rw [HE.out]; rfl, rfl⟩
  by_cases h2 : 20 < s.size
  · have HE := Lib.hid (wrd_len (s := s) (.inr h2))
    have hz : 1 ≤ (s.size : Int) := by omega
    have hy : decide ((20 : Int) < (s.size : Int)) = true := decide_eq_true (by omega)
    clear h1 h2
    go_enter Tryz.func156, Tryz.ntmps156
    go_wp2
    go_ret
    exact ⟨by rw [HE.out]; rfl, rfl⟩
  have hz : 1 ≤ (s.size : Int) := by omega
  have hy : decide ((20 : Int) < (s.size : Int)) = false := decide_eq_false (by omega)
  have hsz : s.size ≤ 20 := by omega
  clear h1 h2
  go_enter Tryz.func156, Tryz.ntmps156
  go_wp2
  go_loop [3] (fun i => ∃ k : Nat, k ≤ s.size ∧ i = .int .i64 k ∧ Hid (WdR s k)) (fun i => s.size - (intOf i).toNat)
  case atStart => exact ⟨0, by omega, rfl, Lib.hid (fun _ _ h => by omega)⟩
  case round =>
    obtain ⟨k, hk, rfl, he⟩ := hrel
    by_cases hlt : k < s.size
    · have H1 := fun v hq => Lib.hid (fun w => smallR_v (s[k]'hlt).toNat v w hq)
      have H2 := fun v hq => Lib.hid (fun w => greatR_v (s[k]'hlt).toNat v w hq)
      cases ha : Wrd.smB s[k].toNat with
      | true =>
        have HN := Lib.hid (he.out.next hlt (kd_a ha))
        replace H1 := H1 _ ha
        clear ha H2
        go_wp2_with fail
        refine (H1.out _).mono ?_
        rintro e w2 ⟨rfl, rfl⟩
        go_wp2_with fail
        go_round
        case rel => exact ⟨k + 1, by omega, by go_num, HN⟩
        case measure => simp [intOf]; omega
      | false =>
        replace H1 := H1 _ ha
        cases hb : Wrd.caB s[k].toNat with
        | true =>
          have HN := Lib.hid (he.out.next hlt (kd_b ha hb))
          replace H2 := H2 _ hb
          clear ha hb
          go_wp2_with fail
          refine (H1.out _).mono ?_
          rintro e w2 ⟨rfl, rfl⟩
          go_wp2_with fail
          refine (H2.out _).mono ?_
          rintro e w2 ⟨rfl, rfl⟩
          go_wp2_with fail
          go_round
          case rel => exact ⟨k + 1, by omega, by go_num, HN⟩
          case measure => simp [intOf]; omega
        | false =>
          replace H2 := H2 _ hb
          rcases two_le (rfl : Wrd.diB s[k].toNat = _) with ⟨hd, h1, h2⟩ | ⟨hd, h1⟩ | ⟨hd, h1, h2⟩
          · have HN := Lib.hid (he.out.next hlt (kd_d ha hb hd))
            have h3 : decide ((57 : Int) < (s[k].toNat : Int)) = false := decide_eq_false (by omega)
            clear ha hb hd
            go_wp2_with fail
            refine (H1.out _).mono ?_
            rintro e w2 ⟨rfl, rfl⟩
            go_wp2_with fail
            refine (H2.out _).mono ?_
            rintro e w2 ⟨rfl, rfl⟩
            go_wp2_with fail
            go_round
            case rel => exact ⟨k + 1, by omega, by go_num, HN⟩
            case measure => simp [intOf]; omega
          · have HE := Lib.hid (wrd_at hlt (kd_n ha hb hd))
            clear ha hb hd
            go_wp2_with fail
            refine (H1.out _).mono ?_
            rintro e w2 ⟨rfl, rfl⟩
            go_wp2_with fail
            refine (H2.out _).mono ?_
            rintro e w2 ⟨rfl, rfl⟩
            go_wp2_with fail
            go_ret
            exact ⟨by rw [HE.out]; rfl, rfl⟩
          · have HE := Lib.hid (wrd_at hlt (kd_n ha hb hd))
            have h3 : decide ((57 : Int) < (s[k].toNat : Int)) = true := decide_eq_true (by omega)
            clear ha hb hd
            go_wp2_with fail
            refine (H1.out _).mono ?_
            rintro e w2 ⟨rfl, rfl⟩
            go_wp2_with fail
            refine (H2.out _).mono ?_
            rintro e w2 ⟨rfl, rfl⟩
            go_wp2_with fail
            go_ret
            exact ⟨by rw [HE.out]; rfl, rfl⟩
    · obtain rfl : k = s.size := by omega
      have HE := Lib.hid (wrd_all (by omega) hsz (fun j hj => he.out j hj hj))
      go_wp2
      go_ret
      exact ⟨by rw [HE.out]; rfl, rfl⟩

end Go.Proofs.YtcaailiijmjdlaaGreatDoor
