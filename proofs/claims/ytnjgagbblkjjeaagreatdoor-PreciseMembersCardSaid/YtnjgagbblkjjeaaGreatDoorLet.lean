/- The contract of words' letters: of which kind a byte is. What was in the world stays as it was. -/
import Derived.Test.YtnjgagbblkjjeaaGreatDoorKey
import Derived.Laws.EntriesVeiled
set_option linter.unusedSimpArgs false
set_option linter.unusedVariables false
set_option maxRecDepth 100000
namespace Go.Proofs.YtnjgagbblkjjeaaGreatDoor
open Go.ChangeShapes Go.WideShapes Go.ChangeAt Go.RowKit

theorem two_le {n a b : Nat} {v : Bool} (h : (decide (a ≤ n) && decide (n ≤ b)) = v) : (v = true ∧ (a : Int) ≤ n ∧ (n : Int) ≤ b) ∨ (v = false ∧ (n : Int) < a) ∨ (v = false ∧ (a : Int) ≤ n ∧ (b : Int) < n) := by
  subst h
  by_cases h1 : a ≤ n
  · by_cases h2 : n ≤ b
    · left; simp [h1, h2]
    · right; right; simp [h1, h2]; omega
  · right; left; simp [h1]; omega

theorem small_v (n : Nat) (v : Bool) (w : World) (h : Wrd.smB n = v) : Calls Tryz.prog 222 #[.int .u8 n] w fun e w' => e = .returned (.bool v) ∧ w = w' := by
  rcases two_le h with ⟨rfl, h1, h2⟩ | ⟨rfl, h1⟩ | ⟨rfl, h1, h2⟩
  all_goals
    clear h
    try have h3 : decide ((n : Int) ≤ 122) = true := decide_eq_true (by omega)
    try have h3 : decide ((n : Int) ≤ 122) = false := decide_eq_false (by omega)
    go_enter Tryz.func222, Tryz.ntmps222
    go_wp2
    go_ret
    exact ⟨rfl, rfl⟩

theorem capital_v (n : Nat) (v : Bool) (w : World) (h : Wrd.caB n = v) : Calls Tryz.prog 223 #[.int .u8 n] w fun e w' => e = .returned (.bool v) ∧ w = w' := by
  rcases two_le h with ⟨rfl, h1, h2⟩ | ⟨rfl, h1⟩ | ⟨rfl, h1, h2⟩
  all_goals
    clear h
    try have h3 : decide ((n : Int) ≤ 90) = true := decide_eq_true (by omega)
    try have h3 : decide ((n : Int) ≤ 90) = false := decide_eq_false (by omega)
    go_enter Tryz.func223, Tryz.ntmps223
    go_wp2
    go_ret
    exact ⟨rfl, rfl⟩

theorem digit_v (n : Nat) (v : Bool) (w : World) (h : Wrd.diB n = v) : Calls Tryz.prog 224 #[.int .u8 n] w fun e w' => e = .returned (.bool v) ∧ w = w' := by
  rcases two_le h with ⟨rfl, h1, h2⟩ | ⟨rfl, h1⟩ | ⟨rfl, h1, h2⟩
  all_goals
    clear h
    try have h3 : decide ((n : Int) ≤ 57) = true := decide_eq_true (by omega)
    try have h3 : decide ((n : Int) ≤ 57) = false := decide_eq_false (by omega)
    go_enter Tryz.func224, Tryz.ntmps224
    go_wp2
    go_ret
    exact ⟨rfl, rfl⟩

abbrev chk3 : Value := .agg #[.func (.func 222) #[] #[], .func (.func 223) #[] #[], .func (.func 224) #[] #[]]

theorem checks_c (w : World) : Calls Tryz.prog 206 #[] w fun e w' => e = .returned chk3 ∧ Kept w w' := by
  have hk := Lib.hid (((Kept.refl w).alloc))
  go_enter Tryz.func206, Tryz.ntmps206
  go_wp2
  exact bodyPost_ret (v := chk3) (by simp [results, Tryz.results206, go_sem]) rfl ⟨rfl, hk.out _⟩

theorem ix_0 (W : World) : (Instr.index 230 chk3 (.int .i64 0)).run Tryz.prog W = .ok (.func (.func 222) #[] #[]) W := rfl

theorem ix_1 (W : World) : (Instr.index 230 chk3 (.int .i64 1)).run Tryz.prog W = .ok (.func (.func 223) #[] #[]) W := rfl

theorem ix_2 (W : World) : (Instr.index 230 chk3 (.int .i64 2)).run Tryz.prog W = .ok (.func (.func 224) #[] #[]) W := rfl

def kd3 (a b c : Bool) : Int := if a then 0 else if b then 1 else if c then 2 else 3

/-- The first k checks have answered no. -/
def KdR (a b c : Bool) (k : Nat) : Prop := (0 < k → a = false) ∧ (1 < k → b = false) ∧ (2 < k → c = false)
theorem KdR.one {a b c : Bool} (h : KdR a b c 0) (e : a = false) : KdR a b c 1 := ⟨fun _ => e, by omega, by omega⟩
theorem KdR.two {a b c : Bool} (h : KdR a b c 1) (e : b = false) : KdR a b c 2 := ⟨fun _ => h.1 (by omega), fun _ => e, by omega⟩
theorem KdR.three {a b c : Bool} (h : KdR a b c 2) (e : c = false) : KdR a b c 3 := ⟨fun _ => h.1 (by omega), fun _ => h.2.1 (by omega), fun _ => e⟩
theorem KdR.at0 {a b c : Bool} (h : KdR a b c 0) (e : a = true) : kd3 a b c = 0 := by rw [e]; rfl
theorem KdR.at1 {a b c : Bool} (h : KdR a b c 1) (e : b = true) : kd3 a b c = 1 := by rw [h.1 (by omega), e]; rfl
theorem KdR.at2 {a b c : Bool} (h : KdR a b c 2) (e : c = true) : kd3 a b c = 2 := by rw [h.1 (by omega), h.2.1 (by omega), e]; rfl
theorem KdR.at3 {a b c : Bool} (h : KdR a b c 3) : kd3 a b c = 3 := by rw [h.1 (by omega), h.2.1 (by omega), h.2.2 (by omega)]; rfl

set_option maxHeartbeats 2000000 in
theorem kind_g (n : Nat) (a b c : Bool) (w : World) (ha : Wrd.smB n = a) (hb : Wrd.caB n = b) (hc : Wrd.diB n = c) :
    Calls Tryz.prog 188 #[.int .u8 n] w fun e w' => e = .returned (.int .i64 (kd3 a b c)) ∧ Kept w w' := by
  have H1 := Lib.hid (fun w => small_v n a w ha)
  have H2 := Lib.hid (fun w => capital_v n b w hb)
  have H3 := Lib.hid (fun w => digit_v n c w hc)
  clear ha hb hc
  go_enter Tryz.func188, Tryz.ntmps188
  go_wp2_with fail
  refine (checks_c _).mono ?_
  rintro e w1 ⟨rfl, k1⟩
  go_wp2_with fail
  go_loopw [6] (fun i wr => ∃ k : Nat, k ≤ 3 ∧ i = .int .i64 k ∧ Kept w wr ∧ Hid (KdR a b c k))
    (fun i wr => 3 - (intOf i).toNat)
  case atStart => exact ⟨0, by omega, rfl, k1, Lib.hid ⟨by omega, by omega, by omega⟩⟩
  case round =>
    obtain ⟨k, hk, rfl, hkp, he⟩ := hrel
    have hk' : k = 0 ∨ k = 1 ∨ k = 2 ∨ k = 3 := by omega
    rcases hk' with rfl | rfl | rfl | rfl
    · have hi := ix_0 wr
      cases ha : a
      · have HR := Lib.hid (show KdR a b c 1 from he.out.one ha)
        go_wp2_with fail
        refine (H1.out _).mono ?_
        rintro e w2 ⟨rfl, rfl⟩
        go_wp2_with fail
        go_roundw
        case rel => exact ⟨1, by omega, rfl, hkp, by rw [ha] at HR; exact HR⟩
        case measure => simp [intOf]
      · have HE := Lib.hid (show kd3 a b c = 0 from he.out.at0 ha)
        go_wp2_with fail
        refine (H1.out _).mono ?_
        rintro e w2 ⟨rfl, rfl⟩
        go_wp2_with fail
        go_ret
        exact ⟨by rw [HE.out]; rfl, hkp⟩
    · have hi := ix_1 wr
      cases hb : b
      · have HR := Lib.hid (show KdR a b c 2 from he.out.two hb)
        go_wp2_with fail
        refine (H2.out _).mono ?_
        rintro e w2 ⟨rfl, rfl⟩
        go_wp2_with fail
        go_roundw
        case rel => exact ⟨2, by omega, rfl, hkp, by rw [hb] at HR; exact HR⟩
        case measure => simp [intOf]
      · have HE := Lib.hid (show kd3 a b c = 1 from he.out.at1 hb)
        go_wp2_with fail
        refine (H2.out _).mono ?_
        rintro e w2 ⟨rfl, rfl⟩
        go_wp2_with fail
        go_ret
        exact ⟨by rw [HE.out]; rfl, hkp⟩
    · have hi := ix_2 wr
      cases hc : c
      · have HR := Lib.hid (show KdR a b c 3 from he.out.three hc)
        go_wp2_with fail
        refine (H3.out _).mono ?_
        rintro e w2 ⟨rfl, rfl⟩
        go_wp2_with fail
        go_roundw
        case rel => exact ⟨3, by omega, rfl, hkp, by rw [hc] at HR; exact HR⟩
        case measure => simp [intOf]
      · have HE := Lib.hid (show kd3 a b c = 2 from he.out.at2 hc)
        go_wp2_with fail
        refine (H3.out _).mono ?_
        rintro e w2 ⟨rfl, rfl⟩
        go_wp2_with fail
        go_ret
        exact ⟨by rw [HE.out]; rfl, hkp⟩
    · have HE := Lib.hid (show kd3 a b c = 3 from he.out.at3)
      go_wp2_with fail
      go_ret
      exact ⟨by rw [HE.out]; rfl, hkp⟩

theorem kind_c (c : UInt8) (w : World) : Calls Tryz.prog 188 #[.int .u8 c.toNat] w fun e w' => e = .returned (.int .i64 (Wrd.kd c)) ∧ Kept w w' :=
  (kind_g c.toNat _ _ _ w rfl rfl rfl).mono fun _ _ ⟨h, k⟩ => ⟨by rw [h]; unfold Wrd.kd kd3; cases Wrd.smB c.toNat <;> cases Wrd.caB c.toNat <;> cases Wrd.diB c.toNat <;> rfl, k⟩

end Go.Proofs.YtnjgagbblkjjeaaGreatDoor
