/- Contracts of words.spelt, Name, Class, Kind, Type and Base. What was in the world stays as it was. -/
import Derived.Test.YtnjgagbblkjjeaaGreatDoorLet
import Derived.Test.YtnjgagbblkjjeaaGreatDoorTag
set_option linter.unusedSimpArgs false
set_option linter.unusedVariables false
set_option maxRecDepth 100000
namespace Go.Proofs.YtnjgagbblkjjeaaGreatDoor
open Go.ChangeShapes Go.WideShapes Go.ChangeAt Go.RowKit

/-- The first k letters are letters, the first of them of kind f. -/
def SpR (s : ByteArray) (f k : Nat) : Prop := (∀ j (hj : j < s.size), j < k → Wrd.kd s[j] ≠ 3) ∧ (∀ h : 0 < s.size, 0 < k → Wrd.kd s[0] = f)
theorem SpR.zero (s : ByteArray) (f : Nat) : SpR s f 0 := ⟨by omega, by omega⟩
theorem SpR.next {s : ByteArray} {f k : Nat} (h : SpR s f k) (hk : k < s.size) (h3 : Wrd.kd s[k] ≠ 3) (h0 : k = 0 → Wrd.kd s[k] = f) : SpR s f (k + 1) := by
  refine ⟨fun j hj hjk => ?_, fun h' _ => ?_⟩
  · by_cases e : j = k
    · subst e; exact h3
    · exact h.1 j hj (by omega)
  · by_cases e : k = 0
    · subst e; exact h0 rfl
    · exact h.2 h' (by omega)
theorem SpR.all {s : ByteArray} {f : Nat} (h : SpR s f s.size) (h1 : 0 < s.size) (h2 : s.size ≤ 20) : Wrd.spelt s f = true :=
  Wrd.spelt_all h1 h2 (fun k hk => h.1 k hk hk) (h.2 h1 h1)

set_option maxHeartbeats 2000000 in
theorem spelt_c (s : ByteArray) (f : Nat) (w : World) (hs : s.size ≤ 9223372036854775807) (hf : f ≤ 2) :
    Calls Tryz.prog 158 #[.string s, .int .i64 f] w fun e w' => e = .returned (.bool (Wrd.spelt s f)) ∧ Kept w w' := by
  by_cases h1 : s.size < 1
  · have HE := Lib.hid (Wrd.spelt_len (s := s) (f := f) (.inl h1))
    have hz : (s.size : Int) < 1 := by omega
    go_enter Tryz.func158, Tryz.ntmps158
    go_wp2
    go_ret
    exact ⟨by rw [HE.out]; rfl, Kept.refl _⟩
  by_cases h2 : 20 < s.size
  · have HE := Lib.hid (Wrd.spelt_len (s := s) (f := f) (.inr h2))
    have hz : 1 ≤ (s.size : Int) := by omega
    have hy : decide ((20 : Int) < (s.size : Int)) = true := decide_eq_true (by omega)
    clear h1 h2
    go_enter Tryz.func158, Tryz.ntmps158
    go_wp2
    go_ret
    exact ⟨by rw [HE.out]; rfl, Kept.refl _⟩
  have hz : 1 ≤ (s.size : Int) := by omega
  have hy : decide ((20 : Int) < (s.size : Int)) = false := decide_eq_false (by omega)
  have hsz : s.size ≤ 20 := by omega
  clear h1 h2
  go_enter Tryz.func158, Tryz.ntmps158
  go_wp2
  go_loopw [17] (fun i wr => ∃ k : Nat, k ≤ s.size ∧ i = .int .i64 k ∧ Kept w wr ∧ Hid (SpR s f k))
    (fun i wr => s.size - (intOf i).toNat)
  case atStart => exact ⟨0, by omega, rfl, Kept.refl _, Lib.hid (SpR.zero s f)⟩
  case round =>
    obtain ⟨k, hk, rfl, hkp, he⟩ := hrel
    by_cases hlt : k < s.size
    · have H := Lib.hid (fun w => kind_c s[k] w)
      by_cases h3 : Wrd.kd s[k] = 3
      · have HE := Lib.hid (Wrd.spelt_at (f := f) hlt h3)
        rw [h3] at H
        clear h3
        go_wp2_with fail
        refine (H.out _).mono ?_
        rintro e w2 ⟨rfl, k2⟩
        go_wp2_with fail
        go_ret
        exact ⟨by rw [HE.out]; rfl, hkp.trans k2⟩
      · have hd3 : (((Wrd.kd s[k] : Nat) : Int) == 3) = false := by simp; omega
        by_cases hk0 : k = 0
        · subst hk0
          by_cases hf0 : Wrd.kd s[0] = f
          · have HN := Lib.hid (he.out.next hlt h3 (fun _ => hf0))
            have hne : (((Wrd.kd s[0] : Nat) : Int) != (f : Int)) = false := by rw [hf0]; simp
            clear h3 hf0
            generalize Wrd.kd s[0] = d at *
            go_wp2_with fail
            refine (H.out _).mono ?_
            rintro e w2 ⟨rfl, k2⟩
            go_wp2_with fail
            go_roundw
            case rel => exact ⟨1, by omega, rfl, hkp.trans k2, HN⟩
            case measure => simp [intOf]; omega
          · have HE := Lib.hid (Wrd.spelt_first (by omega) hf0)
            have hne : (((Wrd.kd s[0] : Nat) : Int) != (f : Int)) = true := by simp; omega
            clear h3 hf0
            generalize Wrd.kd s[0] = d at *
            go_wp2_with fail
            refine (H.out _).mono ?_
            rintro e w2 ⟨rfl, k2⟩
            go_wp2_with fail
            go_ret
            exact ⟨by rw [HE.out]; rfl, hkp.trans k2⟩
        · have HN := Lib.hid (he.out.next hlt h3 (fun h => absurd h hk0))
          have hke : (((k : Nat) : Int) == 0) = false := by simp; omega
          clear h3 hk0
          generalize Wrd.kd s[k] = d at *
          go_wp2_with fail
          refine (H.out _).mono ?_
          rintro e w2 ⟨rfl, k2⟩
          go_wp2_with fail
          go_roundw
          case rel => exact ⟨k + 1, by omega, by go_num, hkp.trans k2, HN⟩
          case measure => simp [intOf]; omega
    · obtain rfl : k = s.size := by omega
      have HE := Lib.hid (he.out.all (by omega) hsz)
      go_wp2
      go_ret
      exact ⟨by rw [HE.out]; rfl, hkp⟩

end Go.Proofs.YtnjgagbblkjjeaaGreatDoor
