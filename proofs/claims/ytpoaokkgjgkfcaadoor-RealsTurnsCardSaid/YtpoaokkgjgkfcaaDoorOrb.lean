/- The contract of the first comparison that decides, of three: whatever the three tell, the first number that is not 0. -/
import Derived.Test.YtpoaokkgjgkfcaaDoorRea
set_option linter.unusedSimpArgs false
set_option linter.unusedVariables false
namespace Go.Proofs.YtpoaokkgjgkfcaaDoor
open Go.ChangeShapes Go.WideShapes Go.ChangeAt Go.RowKit Flo

/-- Three numbers: the first that is not 0. -/
def firstOf (x y z : Int) : Int := if x = 0 then (if y = 0 then z else y) else x

theorem first_0 (a b : Nat) (w : World) (B : Nat) (A1 A2 A3 : Addr)
    (s1 : w.cell? ⟨B, 0, none⟩ = some (.func (.func 53) #[] #[.pointer (some A1)]))
    (s2 : w.cell? ⟨B, 1, none⟩ = some (.func (.func 53) #[] #[.pointer (some A2)]))
    (s3 : w.cell? ⟨B, 2, none⟩ = some (.func (.func 53) #[] #[.pointer (some A3)]))
    (H1 : Hid (Calls Tryd.prog 53 #[.int .u64 a, .int .u64 b, .pointer (some A1)] w fun e w' => e = .returned (.int .i64 0) ∧ w = w'))
    (H2 : Hid (Calls Tryd.prog 53 #[.int .u64 a, .int .u64 b, .pointer (some A2)] w fun e w' => e = .returned (.int .i64 0) ∧ w = w'))
    (H3 : Hid (Calls Tryd.prog 53 #[.int .u64 a, .int .u64 b, .pointer (some A3)] w fun e w' => e = .returned (.int .i64 0) ∧ w = w'))
    : Calls Tryd.prog 37 #[.int .u64 a, .int .u64 b, .slice (some ⟨B, 0, none⟩) 3 3] w fun e w' => e = .returned (.int .i64 0) ∧ w = w' := by
  go_enter Tryd.func37, Tryd.ntmps37
  go_wp2
  refine wp_loop_rounds 4 ?_
  rw [rounds_succ]
  go_wp2_with fail
  refine H1.out.mono ?_
  rintro e w' ⟨rfl, rfl⟩
  clear H1
  go_wp2_with fail
  rw [rounds_succ]
  go_wp2_with fail
  refine H2.out.mono ?_
  rintro e w' ⟨rfl, rfl⟩
  clear H2
  go_wp2_with fail
  rw [rounds_succ]
  go_wp2_with fail
  refine H3.out.mono ?_
  rintro e w' ⟨rfl, rfl⟩
  clear H3
  go_wp2_with fail
  rw [rounds_succ]
  go_wp2_with fail
  go_ret
  exact ⟨rfl, rfl⟩

theorem first_3 (z : Int) (a b : Nat) (w : World) (B : Nat) (A1 A2 A3 : Addr)
    (s1 : w.cell? ⟨B, 0, none⟩ = some (.func (.func 53) #[] #[.pointer (some A1)]))
    (s2 : w.cell? ⟨B, 1, none⟩ = some (.func (.func 53) #[] #[.pointer (some A2)]))
    (s3 : w.cell? ⟨B, 2, none⟩ = some (.func (.func 53) #[] #[.pointer (some A3)]))
    (H1 : Hid (Calls Tryd.prog 53 #[.int .u64 a, .int .u64 b, .pointer (some A1)] w fun e w' => e = .returned (.int .i64 0) ∧ w = w'))
    (H2 : Hid (Calls Tryd.prog 53 #[.int .u64 a, .int .u64 b, .pointer (some A2)] w fun e w' => e = .returned (.int .i64 0) ∧ w = w'))
    (H3 : Hid (Calls Tryd.prog 53 #[.int .u64 a, .int .u64 b, .pointer (some A3)] w fun e w' => e = .returned (.int .i64 z) ∧ w = w'))
    (hz : (z != 0) = true)
    : Calls Tryd.prog 37 #[.int .u64 a, .int .u64 b, .slice (some ⟨B, 0, none⟩) 3 3] w fun e w' => e = .returned (.int .i64 z) ∧ w = w' := by
  go_enter Tryd.func37, Tryd.ntmps37
  go_wp2
  refine wp_loop_rounds 4 ?_
  rw [rounds_succ]
  go_wp2_with fail
  refine H1.out.mono ?_
  rintro e w' ⟨rfl, rfl⟩
  clear H1
  go_wp2_with fail
  rw [rounds_succ]
  go_wp2_with fail
  refine H2.out.mono ?_
  rintro e w' ⟨rfl, rfl⟩
  clear H2
  go_wp2_with fail
  rw [rounds_succ]
  go_wp2_with fail
  refine H3.out.mono ?_
  rintro e w' ⟨rfl, rfl⟩
  clear H3
  go_wp2_with fail
  go_ret
  exact ⟨rfl, rfl⟩

theorem first_2 (y : Int) (a b : Nat) (w : World) (B : Nat) (A1 A2 A3 : Addr)
    (s1 : w.cell? ⟨B, 0, none⟩ = some (.func (.func 53) #[] #[.pointer (some A1)]))
    (s2 : w.cell? ⟨B, 1, none⟩ = some (.func (.func 53) #[] #[.pointer (some A2)]))
    (H1 : Hid (Calls Tryd.prog 53 #[.int .u64 a, .int .u64 b, .pointer (some A1)] w fun e w' => e = .returned (.int .i64 0) ∧ w = w'))
    (H2 : Hid (Calls Tryd.prog 53 #[.int .u64 a, .int .u64 b, .pointer (some A2)] w fun e w' => e = .returned (.int .i64 y) ∧ w = w'))
    (hy : (y != 0) = true)
    : Calls Tryd.prog 37 #[.int .u64 a, .int .u64 b, .slice (some ⟨B, 0, none⟩) 3 3] w fun e w' => e = .returned (.int .i64 y) ∧ w = w' := by
  go_enter Tryd.func37, Tryd.ntmps37
  go_wp2
  refine wp_loop_rounds 4 ?_
  rw [rounds_succ]
  go_wp2_with fail
  refine H1.out.mono ?_
  rintro e w' ⟨rfl, rfl⟩
  clear H1
  go_wp2_with fail
  rw [rounds_succ]
  go_wp2_with fail
  refine H2.out.mono ?_
  rintro e w' ⟨rfl, rfl⟩
  clear H2
  go_wp2_with fail
  go_ret
  exact ⟨rfl, rfl⟩

theorem first_1 (x : Int) (a b : Nat) (w : World) (B : Nat) (A1 A2 A3 : Addr)
    (s1 : w.cell? ⟨B, 0, none⟩ = some (.func (.func 53) #[] #[.pointer (some A1)]))
    (H1 : Hid (Calls Tryd.prog 53 #[.int .u64 a, .int .u64 b, .pointer (some A1)] w fun e w' => e = .returned (.int .i64 x) ∧ w = w'))
    (hx : (x != 0) = true)
    : Calls Tryd.prog 37 #[.int .u64 a, .int .u64 b, .slice (some ⟨B, 0, none⟩) 3 3] w fun e w' => e = .returned (.int .i64 x) ∧ w = w' := by
  go_enter Tryd.func37, Tryd.ntmps37
  go_wp2
  refine wp_loop_rounds 4 ?_
  rw [rounds_succ]
  go_wp2_with fail
  refine H1.out.mono ?_
  rintro e w' ⟨rfl, rfl⟩
  clear H1
  go_wp2_with fail
  go_ret
  exact ⟨rfl, rfl⟩

theorem first_c (x y z : Int) (a b : Nat) (w : World) (B : Nat) (A1 A2 A3 : Addr)
    (s1 : w.cell? ⟨B, 0, none⟩ = some (.func (.func 53) #[] #[.pointer (some A1)])) (s2 : w.cell? ⟨B, 1, none⟩ = some (.func (.func 53) #[] #[.pointer (some A2)])) (s3 : w.cell? ⟨B, 2, none⟩ = some (.func (.func 53) #[] #[.pointer (some A3)]))
    (h1 : Calls Tryd.prog 53 #[.int .u64 a, .int .u64 b, .pointer (some A1)] w fun e w' => e = .returned (.int .i64 x) ∧ w = w')
    (h2 : Calls Tryd.prog 53 #[.int .u64 a, .int .u64 b, .pointer (some A2)] w fun e w' => e = .returned (.int .i64 y) ∧ w = w')
    (h3 : Calls Tryd.prog 53 #[.int .u64 a, .int .u64 b, .pointer (some A3)] w fun e w' => e = .returned (.int .i64 z) ∧ w = w') :
    Calls Tryd.prog 37 #[.int .u64 a, .int .u64 b, .slice (some ⟨B, 0, none⟩) 3 3] w fun e w' => e = .returned (.int .i64 (firstOf x y z)) ∧ w = w' := by
  by_cases hx : x = 0
  · subst hx
    by_cases hy : y = 0
    · subst hy
      by_cases hz : z = 0
      · subst hz
        exact first_0 a b w B A1 A2 A3 s1 s2 s3 (Lib.hid h1) (Lib.hid h2) (Lib.hid h3)
      · exact first_3 z a b w B A1 A2 A3 s1 s2 s3 (Lib.hid h1) (Lib.hid h2) (Lib.hid h3) (by simpa using hz)
    · rw [show firstOf 0 y z = y from by unfold firstOf; rw [if_pos rfl, if_neg hy]]
      exact first_2 y a b w B A1 A2 A3 s1 s2 (Lib.hid h1) (Lib.hid h2) (by simpa using hy)
  · rw [show firstOf x y z = x from by unfold firstOf; rw [if_neg hx]]
    exact first_1 x a b w B A1 A2 A3 s1 (Lib.hid h1) (by simpa using hx)

end Go.Proofs.YtpoaokkgjgkfcaaDoor
