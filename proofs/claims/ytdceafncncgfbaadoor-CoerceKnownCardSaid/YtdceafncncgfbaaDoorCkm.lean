/- same, at two lists of members that are the same. -/
import Derived.Test.YtdceafncncgfbaaDoorCsh
import Derived.Laws.StructEq
set_option linter.unusedSimpArgs false
set_option linter.unusedVariables false
set_option maxRecDepth 100000
namespace Go.Proofs.YtdceafncncgfbaaDoor
open Go.ChangeShapes Go.WideShapes Go.ChangeAt Go.RowKit Go.Shelf

theorem neqMB (s t : ByteArray) (m n : Int) (w : World) : (binOp .neq tM (.agg #[.string s, .int .i64 m]) (.agg #[.string t, .int .i64 n])).run Tryd.prog w = .ok (.bool (!decide ((s, m) = (t, n)))) w := by
  have hf : Tryd.prog.fieldsOf tM = #[{ name := "Name", type := 9, offset := 0, embedded := false, tag := "", pkgPath := "", byteOffset := 0 }, { name := "Arity", type := 3, offset := 1, embedded := false, tag := "", pkgPath := "", byteOffset := 16 }] := by kernel_rfl
  have hp : Tryd.prog.stoodInHeld tM = false := by kernel_rfl
  have h1 : (part 9 #[.string s, .int .i64 m] 0).run Tryd.prog w = .ok (.string s) w := by kernel_rfl
  have h2 : (part 3 #[.string s, .int .i64 m] 1).run Tryd.prog w = .ok (.int .i64 m) w := by kernel_rfl
  have g1 : (part 9 #[.string t, .int .i64 n] 0).run Tryd.prog w = .ok (.string t) w := by kernel_rfl
  have g2 : (part 3 #[.string t, .int .i64 n] 1).run Tryd.prog w = .ok (.int .i64 n) w := by kernel_rfl
  have e1 := fun d => run_equalIn_string (P := Tryd.prog) w d 9 s t Tryd.underlying9
  have e2 := fun d => run_equalIn_int (P := Tryd.prog) w d 3 .i64 .i64 m n Tryd.underlying3
  have hs : (s.toList == t.toList) = decide (s = t) := by
    by_cases e : s = t
    · subst e; simp
    · rw [decide_eq_false e]
      exact beq_no e
  rw [run_neq_struct, show (10000 : Nat) = 9998 + 1 + 1 from rfl, run_equalIn_struct w _ _ _ _ (by rw [hf]; exact Tryd.underlying33) hp, hf]
  simp only [Op.eqFields, Sem.run_bind, Sem.run_ite, h1, h2, g1, g2, e1, e2, Result.andThen_ok, hs]
  have hd : decide ((s, m) = (t, n)) = (decide (s = t) && m == n) := by
    by_cases h2 : s = t <;> by_cases h3 : m = n <;> simp [h2, h3]
  rw [hd]
  cases h2 : decide (s = t) <;> cases h3 : (m == n) <;> simp [Op.eqFields, Result.andThen]

set_option maxHeartbeats 4000000 in
theorem sameM_y (l : List Mbr) (a b : Option Addr) (c d : Nat) (w : World) (ha : MbsAt w a l) (hb : MbsAt w b l) (hl : l.length ≤ 2002000) :
    Calls Tryd.prog 7 #[.slice a l.length c, .slice b l.length d] w fun e w' => e = .returned (.bool true) ∧ Kept w w' := by
  have HA := Lib.hid ha
  have HB := Lib.hid hb
  clear ha hb
  go_enter Tryd.func7, Tryd.ntmps7
  go_wp2_with fail
  go_loopw [5] (fun q wr => ∃ j : Nat, q = .int .i64 j ∧ j ≤ l.length ∧ Kept w wr) (fun q wr => l.length - (intOf q).toNat)
  case atStart => exact ⟨0, rfl, Nat.zero_le _, Kept.refl _⟩
  case round =>
    obtain ⟨j, rfl, hj, hk⟩ := hrel
    by_cases hlt : j < l.length
    · have hltI : (j : Int) < (l.length : Int) := by omega
      have hx : l[j]? = some l[j] := List.getElem?_eq_getElem hlt
      generalize l[j] = x at hx
      obtain ⟨xs, xn⟩ := x
      obtain ⟨ga, rfl, a0, a1⟩ := (HA.out.kept hk) j _ hx
      obtain ⟨gb, rfl, b0, b1⟩ := (HB.out.kept hk) j _ hx
      have hneq : ∀ w, (binOp .neq tM (.agg #[.string xs, .int .i64 xn]) (.agg #[.string xs, .int .i64 xn])).run Tryd.prog w = .ok (.bool false) w := fun w => by
        rw [neqMB]; simp
      have HK := Lib.hid hk
      clear hk hx
      go_wp2_with fail
      refine wp_region_held_drew (S := (fun W => W.cell? ⟨ga, j * 2, none⟩ = some (.string xs) ∧ W.cell? ⟨ga, j * 2 + 1, none⟩ = some (.int .i64 xn) ∧ W.cell? ⟨gb, j * 2, none⟩ = some (.string xs) ∧ W.cell? ⟨gb, j * 2 + 1, none⟩ = some (.int .i64 xn))) (by kernel_rfl) ⟨a0, a1, b0, b1⟩ (fun hHeld0 => ?_)
      refine wpAnyH_take (i := 0) (v := ?_) rfl (by kernel_rfl) (by kernel_rfl) (by kernel_rfl) (fun _ _ _ h => h) (Or.inl ⟨by kernel_rfl, ?_⟩) (by assumption) ?_
      rotate_left
      · intro w hSw; (try dsimp only at hSw); go_simp; (try with_reducible rfl)
      (try simp only [Act.put, List.getElem_toArray, List.getElem_cons_zero, List.getElem_cons_succ, List.setIfInBounds_toArray, List.set_cons_zero, List.set_cons_succ])
      refine wpAnyH_take (i := 1) (v := ?_) rfl (by kernel_rfl) (by kernel_rfl) (by kernel_rfl) (fun _ _ _ h => h) (Or.inl ⟨by kernel_rfl, ?_⟩) (by assumption) ?_
      rotate_left
      · intro w hSw; (try dsimp only at hSw); go_simp; (try with_reducible rfl)
      (try simp only [Act.put, List.getElem_toArray, List.getElem_cons_zero, List.getElem_cons_succ, List.setIfInBounds_toArray, List.set_cons_zero, List.set_cons_succ])
      refine wpAnyH_take (i := 2) (v := ?_) rfl (by kernel_rfl) (by kernel_rfl) (by kernel_rfl) (fun _ _ _ h => h) (Or.inl ⟨by kernel_rfl, ?_⟩) (by assumption) ?_
      rotate_left
      · intro w hSw; (try dsimp only at hSw); go_simp; (try with_reducible rfl)
      (try simp only [Act.put, List.getElem_toArray, List.getElem_cons_zero, List.getElem_cons_succ, List.setIfInBounds_toArray, List.set_cons_zero, List.set_cons_succ])
      refine wpAnyH_take (i := 3) (v := ?_) rfl (by kernel_rfl) (by kernel_rfl) (by kernel_rfl) (fun _ _ _ h => h) (Or.inl ⟨by kernel_rfl, ?_⟩) (by assumption) ?_
      rotate_left
      · intro w hSw; (try dsimp only at hSw); go_simp; (try with_reducible rfl)
      (try simp only [Act.put, List.getElem_toArray, List.getElem_cons_zero, List.getElem_cons_succ, List.setIfInBounds_toArray, List.set_cons_zero, List.set_cons_succ])
      refine wpAnyH_take (i := 4) (v := ?_) rfl (by kernel_rfl) (by kernel_rfl) (by kernel_rfl) (fun _ _ _ h => h) (Or.inl ⟨by kernel_rfl, ?_⟩) (by assumption) ?_
      rotate_left
      · intro w hSw; (try dsimp only at hSw); go_simp; (try with_reducible rfl)
      (try simp only [Act.put, List.getElem_toArray, List.getElem_cons_zero, List.getElem_cons_succ, List.setIfInBounds_toArray, List.set_cons_zero, List.set_cons_succ])
      refine wpAnyH_take (i := 5) (v := ?_) rfl (by kernel_rfl) (by kernel_rfl) (by kernel_rfl) (fun _ _ _ h => h) (Or.inl ⟨by kernel_rfl, ?_⟩) (by assumption) ?_
      rotate_left
      · intro w hSw; (try dsimp only at hSw); go_simp; (try with_reducible rfl)
      (try simp only [Act.put, List.getElem_toArray, List.getElem_cons_zero, List.getElem_cons_succ, List.setIfInBounds_toArray, List.set_cons_zero, List.set_cons_succ])
      refine wpAnyH_take (i := 6) (v := ?_) rfl (by kernel_rfl) (by kernel_rfl) (by kernel_rfl) (fun _ _ _ h => h) (Or.inl ⟨by kernel_rfl, ?_⟩) (by assumption) ?_
      rotate_left
      · intro w hSw; (try dsimp only at hSw); go_simp; (try with_reducible rfl)
      (try simp only [Act.put, List.getElem_toArray, List.getElem_cons_zero, List.getElem_cons_succ, List.setIfInBounds_toArray, List.set_cons_zero, List.set_cons_succ])
      refine wpAnyH_take (i := 7) (v := ?_) rfl (by kernel_rfl) (by kernel_rfl) (by kernel_rfl) (fun _ _ _ h => h) (Or.inl ⟨by kernel_rfl, ?_⟩) (by assumption) ?_
      rotate_left
      · intro w hSw; (try dsimp only at hSw); go_simp; (try with_reducible rfl)
      (try simp only [Act.put, List.getElem_toArray, List.getElem_cons_zero, List.getElem_cons_succ, List.setIfInBounds_toArray, List.set_cons_zero, List.set_cons_succ])
      refine wpAnyH_take (i := 8) (v := ?_) rfl (by kernel_rfl) (by kernel_rfl) (by kernel_rfl) (fun _ _ _ h => h) (Or.inl ⟨by kernel_rfl, ?_⟩) (by assumption) ?_
      rotate_left
      · intro w hSw; (try dsimp only at hSw); go_simp; (try with_reducible rfl)
      (try simp only [Act.put, List.getElem_toArray, List.getElem_cons_zero, List.getElem_cons_succ, List.setIfInBounds_toArray, List.set_cons_zero, List.set_cons_succ])
      refine wpAnyH_done (by kernel_rfl) ?_ _
      clear hHeld0
      go_wp2_with fail
      go_roundw
      case rel => exact ⟨j + 1, by go_num, by omega, HK.out.drew⟩
      case measure => simp [intOf]; omega
    · have hltI : ¬ (j : Int) < (l.length : Int) := by omega
      have HK := Lib.hid hk
      clear hk
      go_wp2_with fail
      go_ret
      exact ⟨rfl, HK.out⟩
end Go.Proofs.YtdceafncncgfbaaDoor
