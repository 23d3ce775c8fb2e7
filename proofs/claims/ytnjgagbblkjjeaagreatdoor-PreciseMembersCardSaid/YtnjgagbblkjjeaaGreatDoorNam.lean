/- Contracts of words.Name, Class, Base, Kind and Type. What was in the world stays as it was. -/
import Derived.Test.YtnjgagbblkjjeaaGreatDoorSpe
set_option linter.unusedSimpArgs false
set_option linter.unusedVariables false
set_option maxRecDepth 100000
namespace Go.Proofs.YtnjgagbblkjjeaaGreatDoor
open Go.ChangeShapes Go.WideShapes Go.ChangeAt Go.RowKit

/-- A text compared with a literal, as the walk spells it. -/
theorem lit_yes {s : ByteArray} {l : List UInt8} (h : s = ⟨l.toArray⟩) : (s.toList == l) = true := by
  rw [h, ByteArray.toList_eq]; simp
theorem lit_no {s : ByteArray} {l : List UInt8} (h : ¬ s = ⟨l.toArray⟩) : (s.toList == l) = false := by
  cases e : s.toList == l with
  | false => rfl
  | true =>
    have e' := eq_of_beq e
    rw [ByteArray.toList_eq] at e'
    exact absurd (ByteArray.ext (by rw [← e'])) h

theorem spelt0_c (s : ByteArray) (w : World) (hs : s.size ≤ 9223372036854775807) :
    Calls Tryz.prog 158 #[.string s, .int .i64 0] w fun e w' => e = .returned (.bool (Wrd.spelt s 0)) ∧ Kept w w' := spelt_c s 0 w hs (by omega)
theorem spelt1_c (s : ByteArray) (w : World) (hs : s.size ≤ 9223372036854775807) :
    Calls Tryz.prog 158 #[.string s, .int .i64 1] w fun e w' => e = .returned (.bool (Wrd.spelt s 1)) ∧ Kept w w' := spelt_c s 1 w hs (by omega)

theorem name_c (s : ByteArray) (w : World) (hT : Tb w) (hs : s.size ≤ 9223372036854775807) :
    Calls Tryz.prog 159 #[.string s] w fun e w' => e = .returned (.bool (Wrd.name s)) ∧ Kept w w' := by
  unfold Wrd.name
  have H1 := Lib.hid (fun w => spelt0_c s w hs)
  have H2 := Lib.hid (fun w hT => key_c s w hT)
  have HT := Lib.hid hT
  clear hT hs
  generalize Wrd.spelt s 0 = a at *
  generalize Wrd.key s = b at *
  cases a
  · go_enter Tryz.func159, Tryz.ntmps159
    go_wp2_with fail
    refine (H1.out _).mono ?_
    rintro e w1 ⟨rfl, k1⟩
    go_wp2_with fail
    go_ret
    exact ⟨rfl, k1⟩
  · go_enter Tryz.func159, Tryz.ntmps159
    go_wp2_with fail
    refine (H1.out _).mono ?_
    rintro e w1 ⟨rfl, k1⟩
    go_wp2_with fail
    refine (H2.out _ (HT.out.kept k1)).mono ?_
    rintro e w2 ⟨rfl, k2⟩
    go_wp2_with fail
    go_ret
    exact ⟨by cases b <;> rfl, k1.trans k2⟩

theorem class_c (s : ByteArray) (w : World) (hs : s.size ≤ 9223372036854775807) :
    Calls Tryz.prog 124 #[.string s] w fun e w' => e = .returned (.bool (Wrd.cls s)) ∧ Kept w w' := by
  have H1 := Lib.hid (fun w => spelt1_c s w hs)
  unfold Wrd.cls
  generalize Wrd.spelt s 1 = a at *
  go_enter Tryz.func124, Tryz.ntmps124
  go_wp2_with fail
  refine (H1.out _).mono ?_
  rintro e w1 ⟨rfl, k1⟩
  go_wp2_with fail
  go_ret
  exact ⟨rfl, k1⟩

theorem base_c (s : ByteArray) (w : World) (hT : Tb w) :
    Calls Tryz.prog 208 #[.string s] w fun e w' => e = .returned (.bool (Wrd.base s)) ∧ Kept w w' := by
  have H1 := Lib.hid (tag_c s w hT)
  unfold Wrd.tagE at H1
  generalize Wrd.base s = a at *
  generalize Wrd.tag s = n at *
  cases a
  · go_enter Tryz.func208, Tryz.ntmps208
    go_wp2_with fail
    refine (H1.out).mono ?_
    rintro e w1 ⟨rfl, k1⟩
    go_wp2_with fail
    go_ret
    exact ⟨rfl, k1⟩
  · go_enter Tryz.func208, Tryz.ntmps208
    go_wp2_with fail
    refine (H1.out).mono ?_
    rintro e w1 ⟨rfl, k1⟩
    go_wp2_with fail
    go_ret
    exact ⟨rfl, k1⟩

theorem kindw_c (s : ByteArray) (w : World) (hT : Tb w) (hs : s.size ≤ 9223372036854775807) :
    Calls Tryz.prog 190 #[.string s] w fun e w' => e = .returned (.int .i64 (Wrd.kind s)) ∧ Kept w w' := by
  have H1 := Lib.hid (base_c s w hT)
  have H2 := Lib.hid (fun w => class_c s w hs)
  unfold Wrd.kind
  generalize Wrd.base s = a at *
  generalize Wrd.cls s = c at *
  clear hT hs
  cases a
  · by_cases hq : s = ⟨#[63]⟩
    · have hb : (s.toList == [63]) = true := lit_yes hq
      rw [if_pos hq]
      clear hq
      go_enter Tryz.func190, Tryz.ntmps190
      go_wp2_with fail
      refine (H1.out).mono ?_
      rintro e w1 ⟨rfl, k1⟩
      go_wp2_with fail
      go_ret
      exact ⟨rfl, k1⟩
    · have hb : (s.toList == [63]) = false := lit_no hq
      rw [if_neg hq]
      clear hq
      cases c
      all_goals
        go_enter Tryz.func190, Tryz.ntmps190
        go_wp2_with fail
        refine (H1.out).mono ?_
        rintro e w1 ⟨rfl, k1⟩
        go_wp2_with fail
        refine (H2.out _).mono ?_
        rintro e w2 ⟨rfl, k2⟩
        go_wp2_with fail
        go_ret
        exact ⟨rfl, k1.trans k2⟩
  · go_enter Tryz.func190, Tryz.ntmps190
    go_wp2_with fail
    refine (H1.out).mono ?_
    rintro e w1 ⟨rfl, k1⟩
    go_wp2_with fail
    go_ret
    exact ⟨rfl, k1⟩

end Go.Proofs.YtnjgagbblkjjeaaGreatDoor
