/- The contracts of Order: it is the order of ranks, in reals and in the document's answers. For words below 2^64; the world has afterwards at most new blocks. -/
import Derived.Test.YtpoaokkgjgkfcaaDoorOra
import Derived.Test.YtpoaokkgjgkfcaaDoorOrb
set_option linter.unusedSimpArgs false
set_option linter.unusedVariables false
namespace Go.Proofs.YtpoaokkgjgkfcaaDoor
open Go.ChangeShapes Go.WideShapes Go.ChangeAt Go.RowKit Flo

theorem ret_i64 {a b : Int} (h : a = b) : Ending.returned (.int .i64 a) = .returned (.int .i64 b) := by rw [h]

/-- The first of the three comparisons that decides tells the order of ranks. -/
theorem three (a b : Nat) (ha : a < 18446744073709551616) (hb : b < 18446744073709551616) : firstOf (cmpB (numF (cn a) (cn b)) (numF (cn b) (cn a))) (cmpB (less (cn a) (cn b)) (less (cn b) (cn a))) (cmpB (minF (cn a) (cn b)) (minF (cn b) (cn a))) = ord a b := by
  have ca := cn_lt ha
  have cb := cn_lt hb
  unfold numF less minF ord rk
  rw [isN_cn, isN_cn]
  have key_eq : ∀ c, c < 18446744073709551616 → key c = if c < 9223372036854775808 then (c : Int) else -((c : Int) - 9223372036854775808) := by
    intro c hc
    unfold key sgn low
    by_cases h : c < 9223372036854775808
    · rw [if_pos h, if_neg (by rw [beq_iff_eq]; omega)]; omega
    · rw [if_neg h, if_pos (by rw [beq_iff_eq]; omega)]; omega
  rw [key_eq _ ca, key_eq _ cb]
  have nlow : ∀ c, isN c = false → cn c = c ∧ c % 9223372036854775808 ≤ 9218868437227405312 := by
    intro c h
    refine ⟨cn_not h, ?_⟩
    unfold isN low at h
    rw [decide_eq_false_iff_not] at h
    omega
  cases hna : isN a
  · obtain ⟨ea, la⟩ := nlow a hna
    rw [ea]
    cases hnb : isN b
    · obtain ⟨eb, lb⟩ := nlow b hnb
      rw [eb]
      by_cases h1 : a < 9223372036854775808 <;> by_cases h2 : b < 9223372036854775808 <;> simp only [h1, h2, if_true, if_false, decide_true, decide_false, Bool.not_false, Bool.not_true, Bool.and_true, Bool.and_false, Bool.true_and, Bool.false_and, not_true, not_false_iff, and_true, and_false, true_and, false_and] <;> unfold firstOf cmpB <;> simp only [if_true, if_false, Bool.false_eq_true, decide_eq_true_eq] <;> repeat' split
      all_goals omega
    · rw [cn_yes hnb]
      unfold nan firstOf cmpB
      simp
      repeat' split
      all_goals omega
  · cases hnb : isN b
    · obtain ⟨eb, lb⟩ := nlow b hnb
      rw [cn_yes hna, eb]
      unfold nan firstOf cmpB
      simp
      repeat' split
      all_goals omega
    · rw [cn_yes hna, cn_yes hnb]
      unfold nan firstOf cmpB
      simp

theorem cells4 (w : World) (x y z p q r : Value) (t u : TypeId) :
    let W := (((w.alloc (.cells #[x] t)).alloc (.cells #[y] t)).alloc (.cells #[z] t)).alloc (.cells #[p, q, r] u)
    W.cell? ⟨w.heap.size, 0, none⟩ = some x ∧ W.cell? ⟨w.heap.size + 1, 0, none⟩ = some y ∧ W.cell? ⟨w.heap.size + 1 + 1, 0, none⟩ = some z ∧
    W.cell? ⟨w.heap.size + 1 + 1 + 1, 0, none⟩ = some p ∧ W.cell? ⟨w.heap.size + 1 + 1 + 1, 1, none⟩ = some q ∧ W.cell? ⟨w.heap.size + 1 + 1 + 1, 2, none⟩ = some r := by
  intro W
  have hz : ∀ (w : World) (o : Obj), (w.alloc o).heap.size = w.heap.size + 1 := fun w o => by simp
  simp only [W]
  simp (disch := first | omega | (simp only [hz]; done) | (simp only [hz]; omega)) only [World.cell?_alloc_past, World.cell?_alloc_at]
  simp

theorem ordR_c (a b : Nat) (ha : a < 18446744073709551616) (hb : b < 18446744073709551616) (w : World) : Calls Tryd.prog 20 #[.int .u64 a, .int .u64 b] w fun e w' => e = .returned (.int .i64 (ord a b)) ∧ Grown w w' := by
  have ca := cn_lt ha
  have cb := cn_lt hb
  rw [← three a b ha hb]
  have C4 := Lib.hid (fun x y z p q r => cells4 w x y z p q r 34 35)
  have HA := Lib.hid (canR_c a ha)
  have HB := Lib.hid (canR_c b hb)
  clear ha hb
  generalize cn a = x at *
  generalize cn b = y at *
  go_enter Tryd.func20, Tryd.ntmps20
  go_wp2_with fail
  refine (HA.out _).mono ?_
  rintro e w' ⟨rfl, rfl⟩
  go_wp2_with fail
  refine (HB.out _).mono ?_
  rintro e w' ⟨rfl, rfl⟩
  go_wp2_with (go_at_call 38; refine (ahead_c _ _).mono ?_; rintro e w' ⟨rfl, rfl⟩)
  obtain ⟨c1, c2, c3, c4, c5, c6⟩ := C4.out _ _ _ _ _ _
  refine (first_c _ _ _ _ _ _ _ _ _ _ c4 c5 c6 (cl1_c numF numF_c _ _ ca cb _ _ c1) (cl2_c less less_c _ _ ca cb _ _ c2) (cl3_c minF minF_c _ _ ca cb _ _ c3)).mono ?_
  rintro e w' ⟨rfl, rfl⟩
  clear c1 c2 c3 c4 c5 c6
  go_wp2_with fail
  go_ret
  exact ⟨rfl, ((((Grown.refl w).alloc _ _).alloc _ _).alloc _ _).alloc _ _⟩
end Go.Proofs.YtpoaokkgjgkfcaaDoor
