/- Contracts of words.Tag and words.OfTag: the table of the base types, searched. What was in the world stays as it was. The contract of words' letters: of which kind a byte is. What was in the world stays as it was. Contracts of words.spelt, Name, Class, Kind, Type and Base. What was in the world stays as it was. Contracts of words.Name, Class, Base, Kind and Type. What was in the world stays as it was. -/
import Derived.Test.YtdceafncncgfbaaDoorKey
import Derived.Laws.Rows
import Derived.Laws.EntriesVeiled
set_option linter.unusedSimpArgs false
set_option linter.unusedVariables false
set_option maxRecDepth 100000
namespace Go.Proofs.YtdceafncncgfbaaDoor
open Go.ChangeShapes Go.WideShapes Go.ChangeAt Go.RowKit

theorem tagF_yes {b s : ByteArray} {r : List ByteArray} {k : Nat} (h : b = s) : Wrd.tagF (b :: r) k s = k := by rw [Wrd.tagF, if_pos h]
theorem tagF_no {b s : ByteArray} {r : List ByteArray} {k : Nat} (h : ¬ b = s) : Wrd.tagF (b :: r) k s = Wrd.tagF r (k + 1) s := by rw [Wrd.tagF, if_neg h]
theorem has_yes {b s : ByteArray} {r : List ByteArray} (h : b = s) : Wrd.has (b :: r) s = true := by unfold Wrd.has; simp [h]
theorem has_next {b s : ByteArray} {r : List ByteArray} (h : ¬ b = s) : Wrd.has (b :: r) s = Wrd.has r s := by unfold Wrd.has; simp [h]

abbrev bagg (b0 b1 b2 b3 b4 : ByteArray) : Value := .agg #[.string b0, .int .i64 1, .string b1, .int .i64 2, .string b2, .int .i64 3, .string b3, .int .i64 4, .string b4, .int .i64 5]

theorem bidx_0 (b0 b1 b2 b3 b4 : ByteArray) (W : World) : (Instr.index 132 (bagg b0 b1 b2 b3 b4) (.int .i64 0)).run Tryd.prog W = .ok (.agg #[.string b0, .int .i64 1]) W := rfl

theorem bidx_1 (b0 b1 b2 b3 b4 : ByteArray) (W : World) : (Instr.index 132 (bagg b0 b1 b2 b3 b4) (.int .i64 1)).run Tryd.prog W = .ok (.agg #[.string b1, .int .i64 2]) W := rfl

theorem bidx_2 (b0 b1 b2 b3 b4 : ByteArray) (W : World) : (Instr.index 132 (bagg b0 b1 b2 b3 b4) (.int .i64 2)).run Tryd.prog W = .ok (.agg #[.string b2, .int .i64 3]) W := rfl

theorem bidx_3 (b0 b1 b2 b3 b4 : ByteArray) (W : World) : (Instr.index 132 (bagg b0 b1 b2 b3 b4) (.int .i64 3)).run Tryd.prog W = .ok (.agg #[.string b3, .int .i64 4]) W := rfl

theorem bidx_4 (b0 b1 b2 b3 b4 : ByteArray) (W : World) : (Instr.index 132 (bagg b0 b1 b2 b3 b4) (.int .i64 4)).run Tryd.prog W = .ok (.agg #[.string b4, .int .i64 5]) W := rfl

/-- What Tag answers. -/
def TagPost (bl : List ByteArray) (s : ByteArray) (w : World) (e : Ending) (w' : World) : Prop :=
  e = .returned (.tuple #[.int .i64 (Wrd.tagF bl 1 s), .int .i64 (if Wrd.has bl s then 0 else 7)]) ∧ Kept w w'

set_option maxHeartbeats 2000000 in
theorem tag_g (b0 b1 b2 b3 b4 s : ByteArray) (w : World) (t : TypeId) (fr : Nat × Nat)
    (hc : w.heap[0]? = some (.cells #[.string b0, .int .i64 1, .string b1, .int .i64 2, .string b2, .int .i64 3, .string b3, .int .i64 4, .string b4, .int .i64 5] t fr)) :
    Calls Tryd.prog 53 #[.string s] w (TagPost [b0, b1, b2, b3, b4] s w) := by
  have c0 := cell_of_row w _ 0 _ t fr hc
  have c1 := cell_of_row w _ 1 _ t fr hc
  have c2 := cell_of_row w _ 2 _ t fr hc
  have c3 := cell_of_row w _ 3 _ t fr hc
  have c4 := cell_of_row w _ 4 _ t fr hc
  have c5 := cell_of_row w _ 5 _ t fr hc
  have c6 := cell_of_row w _ 6 _ t fr hc
  have c7 := cell_of_row w _ 7 _ t fr hc
  have c8 := cell_of_row w _ 8 _ t fr hc
  have c9 := cell_of_row w _ 9 _ t fr hc
  simp at c0 c1 c2 c3 c4 c5 c6 c7 c8 c9
  clear hc
  go_enter Tryd.func53, Tryd.ntmps53
  go_wp2
  clear c0 c1 c2 c3 c4 c5 c6 c7 c8 c9
  go_loopw [7] (fun i wr => ∃ k : Nat, k ≤ 5 ∧ i = .int .i64 k ∧ Kept w wr ∧ (Wrd.tagF [b0, b1, b2, b3, b4] 1 s = Wrd.tagF ([b0, b1, b2, b3, b4].drop k) (k + 1) s ∧ Wrd.has [b0, b1, b2, b3, b4] s = Wrd.has ([b0, b1, b2, b3, b4].drop k) s))
    (fun i wr => 5 - (intOf i).toNat)
  case atStart => exact ⟨0, by omega, rfl, Kept.refl _, rfl, rfl⟩
  case round =>
    obtain ⟨k, hk, rfl, hkp, he⟩ := hrel
    have hk' : k = 0 ∨ k = 1 ∨ k = 2 ∨ k = 3 ∨ k = 4 ∨ k = 5 := by omega
    rcases hk' with rfl | rfl | rfl | rfl | rfl | rfl
    · have hi := bidx_0 b0 b1 b2 b3 b4 wr
      by_cases hx : b0 = s
      · have HE := Lib.hid (show Wrd.tagF [b0, b1, b2, b3, b4] 1 s = 1 ∧ Wrd.has [b0, b1, b2, b3, b4] s = true by rw [he.1, he.2]; exact ⟨tagF_yes hx, has_yes hx⟩)
        have hb : (b0.toList == s.toList) = true := by rw [hx]; exact beq_self_eq_true _
        clear hx he
        go_wp2
        go_ret2
        exact ⟨by rw [HE.out.1, HE.out.2]; rfl, (hkp.alloc _)⟩
      · have HE := Lib.hid (show Wrd.tagF [b0, b1, b2, b3, b4] 1 s = Wrd.tagF ([b0, b1, b2, b3, b4].drop 1) (1 + 1) s ∧ Wrd.has [b0, b1, b2, b3, b4] s = Wrd.has ([b0, b1, b2, b3, b4].drop 1) s by rw [he.1, he.2]; exact ⟨tagF_no hx, has_next hx⟩)
        have hb := beq_no hx
        clear hx he
        go_wp2
        go_roundw
        case rel => exact ⟨1, by omega, rfl, (hkp.alloc _), HE.out⟩
        case measure => simp [intOf]
    · have hi := bidx_1 b0 b1 b2 b3 b4 wr
      by_cases hx : b1 = s
      · have HE := Lib.hid (show Wrd.tagF [b0, b1, b2, b3, b4] 1 s = 2 ∧ Wrd.has [b0, b1, b2, b3, b4] s = true by rw [he.1, he.2]; exact ⟨tagF_yes hx, has_yes hx⟩)
        have hb : (b1.toList == s.toList) = true := by rw [hx]; exact beq_self_eq_true _
        clear hx he
        go_wp2
        go_ret2
        exact ⟨by rw [HE.out.1, HE.out.2]; rfl, (hkp.alloc _)⟩
      · have HE := Lib.hid (show Wrd.tagF [b0, b1, b2, b3, b4] 1 s = Wrd.tagF ([b0, b1, b2, b3, b4].drop 2) (2 + 1) s ∧ Wrd.has [b0, b1, b2, b3, b4] s = Wrd.has ([b0, b1, b2, b3, b4].drop 2) s by rw [he.1, he.2]; exact ⟨tagF_no hx, has_next hx⟩)
        have hb := beq_no hx
        clear hx he
        go_wp2
        go_roundw
        case rel => exact ⟨2, by omega, rfl, (hkp.alloc _), HE.out⟩
        case measure => simp [intOf]
    · have hi := bidx_2 b0 b1 b2 b3 b4 wr
      by_cases hx : b2 = s
      · have HE := Lib.hid (show Wrd.tagF [b0, b1, b2, b3, b4] 1 s = 3 ∧ Wrd.has [b0, b1, b2, b3, b4] s = true by rw [he.1, he.2]; exact ⟨tagF_yes hx, has_yes hx⟩)
        have hb : (b2.toList == s.toList) = true := by rw [hx]; exact beq_self_eq_true _
        clear hx he
        go_wp2
        go_ret2
        exact ⟨by rw [HE.out.1, HE.out.2]; rfl, (hkp.alloc _)⟩
      · have HE := Lib.hid (show Wrd.tagF [b0, b1, b2, b3, b4] 1 s = Wrd.tagF ([b0, b1, b2, b3, b4].drop 3) (3 + 1) s ∧ Wrd.has [b0, b1, b2, b3, b4] s = Wrd.has ([b0, b1, b2, b3, b4].drop 3) s by rw [he.1, he.2]; exact ⟨tagF_no hx, has_next hx⟩)
        have hb := beq_no hx
        clear hx he
        go_wp2
        go_roundw
        case rel => exact ⟨3, by omega, rfl, (hkp.alloc _), HE.out⟩
        case measure => simp [intOf]
    · have hi := bidx_3 b0 b1 b2 b3 b4 wr
      by_cases hx : b3 = s
      · have HE := Lib.hid (show Wrd.tagF [b0, b1, b2, b3, b4] 1 s = 4 ∧ Wrd.has [b0, b1, b2, b3, b4] s = true by rw [he.1, he.2]; exact ⟨tagF_yes hx, has_yes hx⟩)
        have hb : (b3.toList == s.toList) = true := by rw [hx]; exact beq_self_eq_true _
        clear hx he
        go_wp2
        go_ret2
        exact ⟨by rw [HE.out.1, HE.out.2]; rfl, (hkp.alloc _)⟩
      · have HE := Lib.hid (show Wrd.tagF [b0, b1, b2, b3, b4] 1 s = Wrd.tagF ([b0, b1, b2, b3, b4].drop 4) (4 + 1) s ∧ Wrd.has [b0, b1, b2, b3, b4] s = Wrd.has ([b0, b1, b2, b3, b4].drop 4) s by rw [he.1, he.2]; exact ⟨tagF_no hx, has_next hx⟩)
        have hb := beq_no hx
        clear hx he
        go_wp2
        go_roundw
        case rel => exact ⟨4, by omega, rfl, (hkp.alloc _), HE.out⟩
        case measure => simp [intOf]
    · have hi := bidx_4 b0 b1 b2 b3 b4 wr
      by_cases hx : b4 = s
      · have HE := Lib.hid (show Wrd.tagF [b0, b1, b2, b3, b4] 1 s = 5 ∧ Wrd.has [b0, b1, b2, b3, b4] s = true by rw [he.1, he.2]; exact ⟨tagF_yes hx, has_yes hx⟩)
        have hb : (b4.toList == s.toList) = true := by rw [hx]; exact beq_self_eq_true _
        clear hx he
        go_wp2
        go_ret2
        exact ⟨by rw [HE.out.1, HE.out.2]; rfl, (hkp.alloc _)⟩
      · have HE := Lib.hid (show Wrd.tagF [b0, b1, b2, b3, b4] 1 s = Wrd.tagF ([b0, b1, b2, b3, b4].drop 5) (5 + 1) s ∧ Wrd.has [b0, b1, b2, b3, b4] s = Wrd.has ([b0, b1, b2, b3, b4].drop 5) s by rw [he.1, he.2]; exact ⟨tagF_no hx, has_next hx⟩)
        have hb := beq_no hx
        clear hx he
        go_wp2
        go_roundw
        case rel => exact ⟨5, by omega, rfl, (hkp.alloc _), HE.out⟩
        case measure => simp [intOf]
    · have HE := Lib.hid (show Wrd.tagF [b0, b1, b2, b3, b4] 1 s = 0 ∧ Wrd.has [b0, b1, b2, b3, b4] s = false by rw [he.1, he.2]; exact ⟨rfl, rfl⟩)
      clear he
      go_wp2
      go_ret2
      exact ⟨by rw [HE.out.1, HE.out.2]; rfl, hkp⟩

theorem tag_c (s : ByteArray) (w : World) (hT : Tb w) :
    Calls Tryd.prog 53 #[.string s] w fun e w' => e = .returned (.tuple #[.int .i64 (Wrd.tag s), .int .i64 (Wrd.tagE s)]) ∧ Kept w w' := by
  obtain ⟨⟨t, fr, h⟩, _⟩ := hT
  exact tag_g _ _ _ _ _ s w t fr h

/-- What OfTag answers. -/
def OfPost (bl : List ByteArray) (n : Int) (w : World) (e : Ending) (w' : World) : Prop :=
  e = .returned (.tuple #[.string (Wrd.ofF bl 1 n).1, .int .i64 (Wrd.ofF bl 1 n).2]) ∧ Kept w w'

end Go.Proofs.YtdceafncncgfbaaDoor

namespace Go.Proofs.YtdceafncncgfbaaDoor
open Go.ChangeShapes Go.WideShapes Go.ChangeAt Go.RowKit

theorem two_le {n a b : Nat} {v : Bool} (h : (decide (a ≤ n) && decide (n ≤ b)) = v) : (v = true ∧ (a : Int) ≤ n ∧ (n : Int) ≤ b) ∨ (v = false ∧ (n : Int) < a) ∨ (v = false ∧ (a : Int) ≤ n ∧ (b : Int) < n) := by
  subst h
  by_cases h1 : a ≤ n
  · by_cases h2 : n ≤ b
    · left; simp [h1, h2]
    · right; right; simp [h1, h2]; omega
  · right; left; simp [h1]; omega

theorem small_v (n : Nat) (v : Bool) (w : World) (h : Wrd.smB n = v) : Calls Tryd.prog 90 #[.int .u8 n] w fun e w' => e = .returned (.bool v) ∧ w = w' := by
  rcases two_le h with ⟨rfl, h1, h2⟩ | ⟨rfl, h1⟩ | ⟨rfl, h1, h2⟩
  all_goals
    clear h
    try have h3 : decide ((n : Int) ≤ 122) = true := decide_eq_true (by omega)
    try have h3 : decide ((n : Int) ≤ 122) = false := decide_eq_false (by omega)
    go_enter Tryd.func90, Tryd.ntmps90
    go_wp2
    go_ret
    exact ⟨rfl, rfl⟩

theorem capital_v (n : Nat) (v : Bool) (w : World) (h : Wrd.caB n = v) : Calls Tryd.prog 91 #[.int .u8 n] w fun e w' => e = .returned (.bool v) ∧ w = w' := by
  rcases two_le h with ⟨rfl, h1, h2⟩ | ⟨rfl, h1⟩ | ⟨rfl, h1, h2⟩
  all_goals
    clear h
    try have h3 : decide ((n : Int) ≤ 90) = true := decide_eq_true (by omega)
    try have h3 : decide ((n : Int) ≤ 90) = false := decide_eq_false (by omega)
    go_enter Tryd.func91, Tryd.ntmps91
    go_wp2
    go_ret
    exact ⟨rfl, rfl⟩

theorem digit_v (n : Nat) (v : Bool) (w : World) (h : Wrd.diB n = v) : Calls Tryd.prog 92 #[.int .u8 n] w fun e w' => e = .returned (.bool v) ∧ w = w' := by
  rcases two_le h with ⟨rfl, h1, h2⟩ | ⟨rfl, h1⟩ | ⟨rfl, h1, h2⟩
  all_goals
    clear h
    try have h3 : decide ((n : Int) ≤ 57) = true := decide_eq_true (by omega)
    try have h3 : decide ((n : Int) ≤ 57) = false := decide_eq_false (by omega)
    go_enter Tryd.func92, Tryd.ntmps92
    go_wp2
    go_ret
    exact ⟨rfl, rfl⟩

abbrev chk3 : Value := .agg #[.func (.func 90) #[] #[], .func (.func 91) #[] #[], .func (.func 92) #[] #[]]

theorem checks_c (w : World) : Calls Tryd.prog 80 #[] w fun e w' => e = .returned chk3 ∧ Kept w w' := by
  have hk := Lib.hid (((Kept.refl w).alloc))
  go_enter Tryd.func80, Tryd.ntmps80
  go_wp2
  exact bodyPost_ret (v := chk3) (by simp [results, Tryd.results80, go_sem]) rfl ⟨rfl, hk.out _⟩

theorem ix_0 (W : World) : (Instr.index 150 chk3 (.int .i64 0)).run Tryd.prog W = .ok (.func (.func 90) #[] #[]) W := rfl

theorem ix_1 (W : World) : (Instr.index 150 chk3 (.int .i64 1)).run Tryd.prog W = .ok (.func (.func 91) #[] #[]) W := rfl

theorem ix_2 (W : World) : (Instr.index 150 chk3 (.int .i64 2)).run Tryd.prog W = .ok (.func (.func 92) #[] #[]) W := rfl

def kd3 (a b c : Bool) : Int := if a then 0 else if b then 1 else if c then 2 else 3

/-- The first k checks have answered no. -/
def KdR (a b c : Bool) (k : Nat) : Prop := (0 < k → a = false) ∧ (1 < k → b = false) ∧ (2 < k → c = false)
theorem KdR.one {a b c : Bool} (h : KdR a b c 0) (e : a = false) : KdR a b c 1 := ⟨fun _ => e, by omega, by omega⟩
theorem KdR.two {a b c : Bool} (h : KdR a b c 1) (e : b = false) : KdR a b c 2 := ⟨fun _ => h.1 (by omega), fun _ => e, by omega⟩
theorem KdR.three {a b c : Bool} (h : KdR a b c 2) (e : c = false) : KdR a b c 3 := ⟨fun _ => h.1 (by omega), fun _ => h.2.1 (by omega), fun _ => e⟩
theorem KdR.at0 {a b c : Bool} (h : KdR a b c 0) (e : a = true) : kd3 a b c = 0 := by rw [e]; rfl
theorem KdR.at1 {a b c : Bool} (h : KdR a b c 1) (e : b = true) : kd3 a b c = 1 := by rw [h.1 (by omega), e]; rfl
theorem KdR.at2 {a b c : Bool} (h : KdR a b c 2) (e : c = true) : kd3 a b c = 2 := by rw [h.1 (by omega), h.2.1 (by omega), e]; rfl
theorem KdR.at3 {a b c : Bool} (h : KdR a b c 3) : kd3 a b c = 3 := by rw [h.1 (by omega), h.2.1 (by omega), h.2.2 (by omega)]; rfl

set_option maxHeartbeats 2000000 in
theorem kind_g (n : Nat) (a b c : Bool) (w : World) (ha : Wrd.smB n = a) (hb : Wrd.caB n = b) (hc : Wrd.diB n = c) :
    Calls Tryd.prog 67 #[.int .u8 n] w fun e w' => e = .returned (.int .i64 (kd3 a b c)) ∧ Kept w w' := by
  have H1 := Lib.hid (fun w => small_v n a w ha)
  have H2 := Lib.hid (fun w => capital_v n b w hb)
  have H3 := Lib.hid (fun w => digit_v n c w hc)
  clear ha hb hc
  go_enter Tryd.func67, Tryd.ntmps67
  go_wp2_with fail
  refine (checks_c _).mono ?_
  rintro e w1 ⟨rfl, k1⟩
  go_wp2_with fail
  go_loopw [6] (fun i wr => ∃ k : Nat, k ≤ 3 ∧ i = .int .i64 k ∧ Kept w wr ∧ Hid (KdR a b c k))
    (fun i wr => 3 - (intOf i).toNat)
  case atStart => exact ⟨0, by omega, rfl, k1, Lib.hid ⟨by omega, by omega, by omega⟩⟩
  case round =>
    obtain ⟨k, hk, rfl, hkp, he⟩ := hrel
    have hk' : k = 0 ∨ k = 1 ∨ k = 2 ∨ k = 3 := by omega
    rcases hk' with rfl | rfl | rfl | rfl
    · have hi := ix_0 wr
      cases ha : a
      · have HR := Lib.hid (show KdR a b c 1 from he.out.one ha)
        go_wp2_with fail
        refine (H1.out _).mono ?_
        rintro e w2 ⟨rfl, rfl⟩
        go_wp2_with fail
        go_roundw
        case rel => exact ⟨1, by omega, rfl, hkp, by rw [ha] at HR; exact HR⟩
        case measure => simp [intOf]
      · have HE := Lib.hid (show kd3 a b c = 0 from he.out.at0 ha)
        go_wp2_with fail
        refine (H1.out _).mono ?_
        rintro e w2 ⟨rfl, rfl⟩
        go_wp2_with fail
        go_ret
        exact ⟨by rw [HE.out]; rfl, hkp⟩
    · have hi := ix_1 wr
      cases hb : b
      · have HR := Lib.hid (show KdR a b c 2 from he.out.two hb)
        go_wp2_with fail
        refine (H2.out _).mono ?_
        rintro e w2 ⟨rfl, rfl⟩
        go_wp2_with fail
        go_roundw
        case rel => exact ⟨2, by omega, rfl, hkp, by rw [hb] at HR; exact HR⟩
        case measure => simp [intOf]
      · have HE := Lib.hid (show kd3 a b c = 1 from he.out.at1 hb)
        go_wp2_with fail
        refine (H2.out _).mono ?_
        rintro e w2 ⟨rfl, rfl⟩
        go_wp2_with fail
        go_ret
        exact ⟨by rw [HE.out]; rfl, hkp⟩
    · have hi := ix_2 wr
      cases hc : c
      · have HR := Lib.hid (show KdR a b c 3 from he.out.three hc)
        go_wp2_with fail
        refine (H3.out _).mono ?_
        rintro e w2 ⟨rfl, rfl⟩
        go_wp2_with fail
        go_roundw
        case rel => exact ⟨3, by omega, rfl, hkp, by rw [hc] at HR; exact HR⟩
        case measure => simp [intOf]
      · have HE := Lib.hid (show kd3 a b c = 2 from he.out.at2 hc)
        go_wp2_with fail
        refine (H3.out _).mono ?_
        rintro e w2 ⟨rfl, rfl⟩
        go_wp2_with fail
        go_ret
        exact ⟨by rw [HE.out]; rfl, hkp⟩
    · have HE := Lib.hid (show kd3 a b c = 3 from he.out.at3)
      go_wp2_with fail
      go_ret
      exact ⟨by rw [HE.out]; rfl, hkp⟩

theorem kind_c (c : UInt8) (w : World) : Calls Tryd.prog 67 #[.int .u8 c.toNat] w fun e w' => e = .returned (.int .i64 (Wrd.kd c)) ∧ Kept w w' :=
  (kind_g c.toNat _ _ _ w rfl rfl rfl).mono fun _ _ ⟨h, k⟩ => ⟨by rw [h]; unfold Wrd.kd kd3; cases Wrd.smB c.toNat <;> cases Wrd.caB c.toNat <;> cases Wrd.diB c.toNat <;> rfl, k⟩

end Go.Proofs.YtdceafncncgfbaaDoor

namespace Go.Proofs.YtdceafncncgfbaaDoor
open Go.ChangeShapes Go.WideShapes Go.ChangeAt Go.RowKit

/-- The first k letters are letters, the first of them of kind f. -/
def SpR (s : ByteArray) (f k : Nat) : Prop := (∀ j (hj : j < s.size), j < k → Wrd.kd s[j] ≠ 3) ∧ (∀ h : 0 < s.size, 0 < k → Wrd.kd s[0] = f)
theorem SpR.zero (s : ByteArray) (f : Nat) : SpR s f 0 := ⟨by omega, by omega⟩
theorem SpR.next {s : ByteArray} {f k : Nat} (h : SpR s f k) (hk : k < s.size) (h3 : Wrd.kd s[k] ≠ 3) (h0 : k = 0 → Wrd.kd s[k] = f) : SpR s f (k + 1) := by
  refine ⟨fun j hj hjk => ?_, fun h' _ => ?_⟩
  · by_cases e : j = k
    · subst e; exact h3
    · exact h.1 j hj (by omega)
  · by_cases e : k = 0
    · subst e; exact h0 rfl
    · exact h.2 h' (by omega)
theorem SpR.all {s : ByteArray} {f : Nat} (h : SpR s f s.size) (h1 : 0 < s.size) (h2 : s.size ≤ 20) : Wrd.spelt s f = true :=
  Wrd.spelt_all h1 h2 (fun k hk => h.1 k hk hk) (h.2 h1 h1)

set_option maxHeartbeats 2000000 in
theorem spelt_c (s : ByteArray) (f : Nat) (w : World) (hs : s.size ≤ 9223372036854775807) (hf : f ≤ 2) :
    Calls Tryd.prog 50 #[.string s, .int .i64 f] w fun e w' => e = .returned (.bool (Wrd.spelt s f)) ∧ Kept w w' := by
  by_cases h1 : s.size < 1
  · have HE := Lib.hid (Wrd.spelt_len (s := s) (f := f) (.inl h1))
    have hz : (s.size : Int) < 1 := by omega
    go_enter Tryd.func50, Tryd.ntmps50
    go_wp2
    go_ret
    exact ⟨by rw [HE.out]; rfl, Kept.refl _⟩
  by_cases h2 : 20 < s.size
  · have HE := Lib.hid (Wrd.spelt_len (s := s) (f := f) (.inr h2))
    have hz : 1 ≤ (s.size : Int) := by omega
    have hy : decide ((20 : Int) < (s.size : Int)) = true := decide_eq_true (by omega)
    clear h1 h2
    go_enter Tryd.func50, Tryd.ntmps50
    go_wp2
    go_ret
    exact ⟨by rw [HE.out]; rfl, Kept.refl _⟩
  have hz : 1 ≤ (s.size : Int) := by omega
  have hy : decide ((20 : Int) < (s.size : Int)) = false := decide_eq_false (by omega)
  have hsz : s.size ≤ 20 := by omega
  clear h1 h2
  go_enter Tryd.func50, Tryd.ntmps50
  go_wp2
  go_loopw [17] (fun i wr => ∃ k : Nat, k ≤ s.size ∧ i = .int .i64 k ∧ Kept w wr ∧ Hid (SpR s f k))
    (fun i wr => s.size - (intOf i).toNat)
  case atStart => exact ⟨0, by omega, rfl, Kept.refl _, Lib.hid (SpR.zero s f)⟩
  case round =>
    obtain ⟨k, hk, rfl, hkp, he⟩ := hrel
    by_cases hlt : k < s.size
    · have H := Lib.hid (fun w => kind_c s[k] w)
      by_cases h3 : Wrd.kd s[k] = 3
      · have HE := Lib.hid (Wrd.spelt_at (f := f) hlt h3)
        rw [h3] at H
        clear h3
        go_wp2_with fail
        refine (H.out _).mono ?_
        rintro e w2 ⟨rfl, k2⟩
        go_wp2_with fail
        go_ret
        exact ⟨by rw [HE.out]; rfl, hkp.trans k2⟩
      · have hd3 : (((Wrd.kd s[k] : Nat) : Int) == 3) = false := by simp; omega
        by_cases hk0 : k = 0
        · subst hk0
          by_cases hf0 : Wrd.kd s[0] = f
          · have HN := Lib.hid (he.out.next hlt h3 (fun _ => hf0))
            have hne : (((Wrd.kd s[0] : Nat) : Int) != (f : Int)) = false := by rw [hf0]; simp
            clear h3 hf0
            generalize Wrd.kd s[0] = d at *
            go_wp2_with fail
            refine (H.out _).mono ?_
            rintro e w2 ⟨rfl, k2⟩
            go_wp2_with fail
            go_roundw
            case rel => exact ⟨1, by omega, rfl, hkp.trans k2, HN⟩
            case measure => simp [intOf]; omega
          · have HE := Lib.hid (Wrd.spelt_first (by omega) hf0)
            have hne : (((Wrd.kd s[0] : Nat) : Int) != (f : Int)) = true := by simp; omega
            clear h3 hf0
            generalize Wrd.kd s[0] = d at *
            go_wp2_with fail
            refine (H.out _).mono ?_
            rintro e w2 ⟨rfl, k2⟩
            go_wp2_with fail
            go_ret
            exact ⟨by rw [HE.out]; rfl, hkp.trans k2⟩
        · have HN := Lib.hid (he.out.next hlt h3 (fun h => absurd h hk0))
          have hke : (((k : Nat) : Int) == 0) = false := by simp; omega
          clear h3 hk0
          generalize Wrd.kd s[k] = d at *
          go_wp2_with fail
          refine (H.out _).mono ?_
          rintro e w2 ⟨rfl, k2⟩
          go_wp2_with fail
          go_roundw
          case rel => exact ⟨k + 1, by omega, by go_num, hkp.trans k2, HN⟩
          case measure => simp [intOf]; omega
    · obtain rfl : k = s.size := by omega
      have HE := Lib.hid (he.out.all (by omega) hsz)
      go_wp2
      go_ret
      exact ⟨by rw [HE.out]; rfl, hkp⟩

end Go.Proofs.YtdceafncncgfbaaDoor

namespace Go.Proofs.YtdceafncncgfbaaDoor
open Go.ChangeShapes Go.WideShapes Go.ChangeAt Go.RowKit

/-- A text compared with a literal, as the walk spells it. -/
theorem lit_yes {s : ByteArray} {l : List UInt8} (h : s = ⟨l.toArray⟩) : (s.toList == l) = true := by
  rw [h, ByteArray.toList_eq]; simp
theorem lit_no {s : ByteArray} {l : List UInt8} (h : ¬ s = ⟨l.toArray⟩) : (s.toList == l) = false := by
  cases e : s.toList == l with
  | false => rfl
  | true =>
    have e' := eq_of_beq e
    rw [ByteArray.toList_eq] at e'
    exact absurd (ByteArray.ext (by rw [← e'])) h

theorem spelt0_c (s : ByteArray) (w : World) (hs : s.size ≤ 9223372036854775807) :
    Calls Tryd.prog 50 #[.string s, .int .i64 0] w fun e w' => e = .returned (.bool (Wrd.spelt s 0)) ∧ Kept w w' := spelt_c s 0 w hs (by omega)
theorem spelt1_c (s : ByteArray) (w : World) (hs : s.size ≤ 9223372036854775807) :
    Calls Tryd.prog 50 #[.string s, .int .i64 1] w fun e w' => e = .returned (.bool (Wrd.spelt s 1)) ∧ Kept w w' := spelt_c s 1 w hs (by omega)

theorem class_c (s : ByteArray) (w : World) (hs : s.size ≤ 9223372036854775807) :
    Calls Tryd.prog 27 #[.string s] w fun e w' => e = .returned (.bool (Wrd.cls s)) ∧ Kept w w' := by
  have H1 := Lib.hid (fun w => spelt1_c s w hs)
  unfold Wrd.cls
  generalize Wrd.spelt s 1 = a at *
  go_enter Tryd.func27, Tryd.ntmps27
  go_wp2_with fail
  refine (H1.out _).mono ?_
  rintro e w1 ⟨rfl, k1⟩
  go_wp2_with fail
  go_ret
  exact ⟨rfl, k1⟩

theorem base_c (s : ByteArray) (w : World) (hT : Tb w) :
    Calls Tryd.prog 29 #[.string s] w fun e w' => e = .returned (.bool (Wrd.base s)) ∧ Kept w w' := by
  have H1 := Lib.hid (tag_c s w hT)
  unfold Wrd.tagE at H1
  generalize Wrd.base s = a at *
  generalize Wrd.tag s = n at *
  cases a
  · go_enter Tryd.func29, Tryd.ntmps29
    go_wp2_with fail
    refine (H1.out).mono ?_
    rintro e w1 ⟨rfl, k1⟩
    go_wp2_with fail
    go_ret
    exact ⟨rfl, k1⟩
  · go_enter Tryd.func29, Tryd.ntmps29
    go_wp2_with fail
    refine (H1.out).mono ?_
    rintro e w1 ⟨rfl, k1⟩
    go_wp2_with fail
    go_ret
    exact ⟨rfl, k1⟩

theorem kindw_c (s : ByteArray) (w : World) (hT : Tb w) (hs : s.size ≤ 9223372036854775807) :
    Calls Tryd.prog 72 #[.string s] w fun e w' => e = .returned (.int .i64 (Wrd.kind s)) ∧ Kept w w' := by
  have H1 := Lib.hid (base_c s w hT)
  have H2 := Lib.hid (fun w => class_c s w hs)
  unfold Wrd.kind
  generalize Wrd.base s = a at *
  generalize Wrd.cls s = c at *
  clear hT hs
  cases a
  · by_cases hq : s = ⟨#[63]⟩
    · have hb : (s.toList == [63]) = true := lit_yes hq
      rw [if_pos hq]
      clear hq
      go_enter Tryd.func72, Tryd.ntmps72
      go_wp2_with fail
      refine (H1.out).mono ?_
      rintro e w1 ⟨rfl, k1⟩
      go_wp2_with fail
      go_ret
      exact ⟨rfl, k1⟩
    · have hb : (s.toList == [63]) = false := lit_no hq
      rw [if_neg hq]
      clear hq
      cases c
      all_goals
        go_enter Tryd.func72, Tryd.ntmps72
        go_wp2_with fail
        refine (H1.out).mono ?_
        rintro e w1 ⟨rfl, k1⟩
        go_wp2_with fail
        refine (H2.out _).mono ?_
        rintro e w2 ⟨rfl, k2⟩
        go_wp2_with fail
        go_ret
        exact ⟨rfl, k1.trans k2⟩
  · go_enter Tryd.func72, Tryd.ntmps72
    go_wp2_with fail
    refine (H1.out).mono ?_
    rintro e w1 ⟨rfl, k1⟩
    go_wp2_with fail
    go_ret
    exact ⟨rfl, k1⟩

end Go.Proofs.YtdceafncncgfbaaDoor
