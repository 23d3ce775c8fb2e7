/- Contracts of the comparisons of reals: the three rules, and the comparison that is made of a rule. For words below 2^64. -/
import Derived.Test.YtpoaokkgjgkfcaaDoorRea
set_option linter.unusedSimpArgs false
set_option linter.unusedVariables false
namespace Go.Proofs.YtpoaokkgjgkfcaaDoor
open Go.ChangeShapes Go.WideShapes Go.ChangeAt Go.RowKit Flo

def numF (a b : Nat) : Bool := !isN a && isN b
def minF (a b : Nat) : Bool := decide (b < 9223372036854775808 ∧ ¬ a < 9223372036854775808)
def cmpB (p q : Bool) : Int := if p then -1 else if q then 1 else 0
def Rule (k : Nat) (p : Nat → Nat → Bool) : Prop := ∀ (a b : Nat) (w : World), a < 18446744073709551616 → b < 18446744073709551616 → Calls Tryd.prog k #[.int .u64 a, .int .u64 b] w fun e w' => e = .returned (.bool (p a b)) ∧ w = w'

theorem numF_c : Rule 39 numF := by
  intro a b w ha hb
  cases hna : isN a <;> cases hnb : isN b
  all_goals
    go_enter Tryd.func39, Tryd.ntmps39
    go_wp2_with (go_at_call 41; refine (isNaN_c _ (by assumption) _).mono ?_; rintro e w' ⟨rfl, rfl⟩)
    go_ret
    exact ⟨ret_bool (by unfold numF; rw [hna, hnb]; rfl), rfl⟩

theorem minF_c : Rule 40 minF := by
  intro a b w ha hb
  go_enter Tryd.func40, Tryd.ntmps40
  go_wp2
  go_ret
  refine ⟨ret_bool ?_, rfl⟩
  rw [and_sign a ha, and_sign b hb]
  unfold minF
  rw [Bool.eq_iff_iff]
  split <;> split <;> simp <;> omega

theorem less_c : Rule 18 less := fun a b w _ _ => lessR_c a b w

theorem cl1_c (p : Nat → Nat → Bool) (hR : Rule 39 p) (a b : Nat) (ha : a < 18446744073709551616) (hb : b < 18446744073709551616) (w : World) (A : Addr) (hcell : w.cell? A = some (.func (.func 39) #[] #[])) :
    Calls Tryd.prog 53 #[.int .u64 a, .int .u64 b, .pointer (some A)] w fun e w' => e = .returned (.int .i64 (cmpB (p a b) (p b a))) ∧ w = w' := by
  have h1 := Lib.hid (hR a b w ha hb)
  have h2 := Lib.hid (hR b a w hb ha)
  clear hR
  cases hp : p a b
  · cases hq : p b a <;> rw [hp] at h1 <;> rw [hq] at h2
    all_goals
      clear hp hq
      go_enter Tryd.func53, Tryd.ntmps53
      go_wp2_with fail
      refine h1.out.mono ?_
      rintro e w' ⟨rfl, rfl⟩
      go_wp2_with fail
      refine h2.out.mono ?_
      rintro e w' ⟨rfl, rfl⟩
      go_wp2_with fail
      go_ret
      exact ⟨rfl, rfl⟩
  · rw [hp] at h1
    clear hp h2
    go_enter Tryd.func53, Tryd.ntmps53
    go_wp2_with fail
    refine h1.out.mono ?_
    rintro e w' ⟨rfl, rfl⟩
    go_wp2_with fail
    go_ret
    exact ⟨rfl, rfl⟩

theorem cl2_c (p : Nat → Nat → Bool) (hR : Rule 18 p) (a b : Nat) (ha : a < 18446744073709551616) (hb : b < 18446744073709551616) (w : World) (A : Addr) (hcell : w.cell? A = some (.func (.func 18) #[] #[])) :
    Calls Tryd.prog 53 #[.int .u64 a, .int .u64 b, .pointer (some A)] w fun e w' => e = .returned (.int .i64 (cmpB (p a b) (p b a))) ∧ w = w' := by
  have h1 := Lib.hid (hR a b w ha hb)
  have h2 := Lib.hid (hR b a w hb ha)
  clear hR
  cases hp : p a b
  · cases hq : p b a <;> rw [hp] at h1 <;> rw [hq] at h2
    all_goals
      clear hp hq
      go_enter Tryd.func53, Tryd.ntmps53
      go_wp2_with fail
      refine h1.out.mono ?_
      rintro e w' ⟨rfl, rfl⟩
      go_wp2_with fail
      refine h2.out.mono ?_
      rintro e w' ⟨rfl, rfl⟩
      go_wp2_with fail
      go_ret
      exact ⟨rfl, rfl⟩
  · rw [hp] at h1
    clear hp h2
    go_enter Tryd.func53, Tryd.ntmps53
    go_wp2_with fail
    refine h1.out.mono ?_
    rintro e w' ⟨rfl, rfl⟩
    go_wp2_with fail
    go_ret
    exact ⟨rfl, rfl⟩

theorem cl3_c (p : Nat → Nat → Bool) (hR : Rule 40 p) (a b : Nat) (ha : a < 18446744073709551616) (hb : b < 18446744073709551616) (w : World) (A : Addr) (hcell : w.cell? A = some (.func (.func 40) #[] #[])) :
    Calls Tryd.prog 53 #[.int .u64 a, .int .u64 b, .pointer (some A)] w fun e w' => e = .returned (.int .i64 (cmpB (p a b) (p b a))) ∧ w = w' := by
  have h1 := Lib.hid (hR a b w ha hb)
  have h2 := Lib.hid (hR b a w hb ha)
  clear hR
  cases hp : p a b
  · cases hq : p b a <;> rw [hp] at h1 <;> rw [hq] at h2
    all_goals
      clear hp hq
      go_enter Tryd.func53, Tryd.ntmps53
      go_wp2_with fail
      refine h1.out.mono ?_
      rintro e w' ⟨rfl, rfl⟩
      go_wp2_with fail
      refine h2.out.mono ?_
      rintro e w' ⟨rfl, rfl⟩
      go_wp2_with fail
      go_ret
      exact ⟨rfl, rfl⟩
  · rw [hp] at h1
    clear hp h2
    go_enter Tryd.func53, Tryd.ntmps53
    go_wp2_with fail
    refine h1.out.mono ?_
    rintro e w' ⟨rfl, rfl⟩
    go_wp2_with fail
    go_ret
    exact ⟨rfl, rfl⟩

theorem ahead_c (k : Nat) (w : World) : Calls Tryd.prog 38 #[.func (.func k) #[] #[]] w fun e w' =>
    e = .returned (.func (.func 53) #[] #[.pointer (some ⟨w.heap.size, 0, none⟩)]) ∧ w' = w.alloc (.cells #[.func (.func k) #[] #[]] 34) := by
  have hmf : ∀ (fn : Fn) (first cap : Array Value) (w : World), (Instr.makeFunc fn first cap).run Tryd.prog w = .ok (.func fn first cap) w := fun _ _ _ _ => rfl
  go_enter Tryd.func38, Tryd.ntmps38
  go_wp2
  go_ret
  exact ⟨rfl, rfl⟩

end Go.Proofs.YtpoaokkgjgkfcaaDoor
