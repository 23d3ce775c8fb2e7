/- The methods of operands: what operations make of one or two values that lie in a row. -/
import Derived.Test.YtcaailiijmjdlaaGreatDoorZvb
set_option linter.unusedSimpArgs false
set_option linter.unusedVariables false
set_option maxRecDepth 100000
namespace Go.Proofs.YtcaailiijmjdlaaGreatDoor
open Go.ChangeShapes Go.WideShapes Go.ChangeAt Go.RowKit Flo
attribute [local go_sem] Oper.semAt_some
open Zp (V e0 vI vR vB vS ordL ordS numT Out rdo calcO)

abbrev ten (a b : V) (pa : Option Addr) (la ca : Nat) (pb : Option Addr) (lb cb : Nat) : Array Value := #[.int .i64 a.tag, .int .i64 a.n, .int .u64 (a.bits : Int), .string a.s, .slice pa la ca, .int .i64 b.tag, .int .i64 b.n, .int .u64 (b.bits : Int), .string b.s, .slice pb lb cb]
abbrev five (a : V) (pa : Option Addr) (la ca : Nat) : Array Value := #[.int .i64 a.tag, .int .i64 a.n, .int .u64 (a.bits : Int), .string a.s, .slice pa la ca]
theorem blk10 {W : World} {g : Nat} {t : TypeId} {a b : V} {pa pb : Option Addr} {la ca lb cb : Nat} (h : Blk W g t (ten a b pa la ca pb lb cb)) : W.cell? ⟨g, 0, none⟩ = some (.int .i64 a.tag) ∧ W.cell? ⟨g, 1, none⟩ = some (.int .i64 a.n) ∧ W.cell? ⟨g, 2, none⟩ = some (.int .u64 (a.bits : Int)) ∧ W.cell? ⟨g, 3, none⟩ = some (.string a.s) ∧ W.cell? ⟨g, 4, none⟩ = some (.slice pa la ca) ∧ W.cell? ⟨g, 5, none⟩ = some (.int .i64 b.tag) ∧ W.cell? ⟨g, 6, none⟩ = some (.int .i64 b.n) ∧ W.cell? ⟨g, 7, none⟩ = some (.int .u64 (b.bits : Int)) ∧ W.cell? ⟨g, 8, none⟩ = some (.string b.s) ∧ W.cell? ⟨g, 9, none⟩ = some (.slice pb lb cb) :=
  ⟨h.cell 0, h.cell 1, h.cell 2, h.cell 3, h.cell 4, h.cell 5, h.cell 6, h.cell 7, h.cell 8, h.cell 9⟩

set_option maxHeartbeats 4000000 in
theorem om_same (a b : V) (pa pb : Option Addr) (la ca lb cb : Nat) (op : ByteArray) (g : Nat) (t : TypeId) (w : World) (hb : Blk w g t (ten a b pa la ca pb lb cb)) :
    Calls Tryz.prog 79 #[.slice (some ⟨g, 0, none⟩) 2 2, .string op] w (OutPost (.val (vB (ordS a b))) w) := by
  obtain ⟨W0, hW0⟩ : ∃ W, w.alloc (.cells vZ vT) = W := ⟨_, rfl⟩
  obtain ⟨k0, b0, z0⟩ := vnew hW0
  have HG := Lib.hid (hb.kept k0)
  have HW0 := Lib.hid hW0
  have HB0 := Lib.hid b0
  have HK0 := Lib.hid k0
  have HZ := Lib.hid (show g < w.heap.size from hb.lt)
  clear hW0 b0 k0 hb z0
  go_enter Tryz.func79, Tryz.ntmps79
  go_wp2_with (rw [HW0.out])
  refine wp_region_till (S := (fun W => W.cell? ⟨g, 0, none⟩ = some (.int .i64 a.tag) ∧ W.cell? ⟨g, 1, none⟩ = some (.int .i64 a.n) ∧ W.cell? ⟨g, 2, none⟩ = some (.int .u64 (a.bits : Int)) ∧ W.cell? ⟨g, 3, none⟩ = some (.string a.s) ∧ W.cell? ⟨g, 4, none⟩ = some (.slice pa la ca) ∧ W.cell? ⟨g, 5, none⟩ = some (.int .i64 b.tag) ∧ W.cell? ⟨g, 6, none⟩ = some (.int .i64 b.n) ∧ W.cell? ⟨g, 7, none⟩ = some (.int .u64 (b.bits : Int)) ∧ W.cell? ⟨g, 8, none⟩ = some (.string b.s) ∧ W.cell? ⟨g, 9, none⟩ = some (.slice pb lb cb))) 8 (by kernel_rfl) (blk10 HG.out.drew) (fun hHeld0 => ?_)
  refine wpAnyT_take (i := 0) (v := ?_) rfl (by kernel_rfl) (by kernel_rfl) (by kernel_rfl) (fun _ _ _ h => h) (Or.inl ⟨by kernel_rfl, ?_⟩) (by assumption) ?_
  rotate_left
  · intro w hSw; (try dsimp only at hSw); go_simp; (try with_reducible rfl)
  (try simp only [Act.put, List.getElem_toArray, List.getElem_cons_zero, List.getElem_cons_succ, List.setIfInBounds_toArray, List.set_cons_zero, List.set_cons_succ])
  refine wpAnyT_take (i := 1) (v := ?_) rfl (by kernel_rfl) (by kernel_rfl) (by kernel_rfl) (fun _ _ _ h => h) (Or.inl ⟨by kernel_rfl, ?_⟩) (by assumption) ?_
  rotate_left
  · intro w hSw; (try dsimp only at hSw); go_simp; (try with_reducible rfl)
  (try simp only [Act.put, List.getElem_toArray, List.getElem_cons_zero, List.getElem_cons_succ, List.setIfInBounds_toArray, List.set_cons_zero, List.set_cons_succ])
  refine wpAnyT_take (i := 2) (v := ?_) rfl (by kernel_rfl) (by kernel_rfl) (by kernel_rfl) (fun _ _ _ h => h) (Or.inl ⟨by kernel_rfl, ?_⟩) (by assumption) ?_
  rotate_left
  · intro w hSw; (try dsimp only at hSw); go_simp; (try with_reducible rfl)
  (try simp only [Act.put, List.getElem_toArray, List.getElem_cons_zero, List.getElem_cons_succ, List.setIfInBounds_toArray, List.set_cons_zero, List.set_cons_succ])
  refine wpAnyT_take (i := 3) (v := ?_) rfl (by kernel_rfl) (by kernel_rfl) (by kernel_rfl) (fun _ _ _ h => h) (Or.inl ⟨by kernel_rfl, ?_⟩) (by assumption) ?_
  rotate_left
  · intro w hSw; (try dsimp only at hSw); go_simp; (try with_reducible rfl)
  (try simp only [Act.put, List.getElem_toArray, List.getElem_cons_zero, List.getElem_cons_succ, List.setIfInBounds_toArray, List.set_cons_zero, List.set_cons_succ])
  refine wpAnyT_take (i := 4) (v := ?_) rfl (by kernel_rfl) (by kernel_rfl) (by kernel_rfl) (fun _ _ _ h => h) (Or.inl ⟨by kernel_rfl, ?_⟩) (by assumption) ?_
  rotate_left
  · intro w hSw; (try dsimp only at hSw); go_simp; (try with_reducible rfl)
  (try simp only [Act.put, List.getElem_toArray, List.getElem_cons_zero, List.getElem_cons_succ, List.setIfInBounds_toArray, List.set_cons_zero, List.set_cons_succ])
  refine wpAnyT_take (i := 5) (v := ?_) rfl (by kernel_rfl) (by kernel_rfl) (by kernel_rfl) (fun _ _ _ h => h) (Or.inl ⟨by kernel_rfl, ?_⟩) (by assumption) ?_
  rotate_left
  · intro w hSw; (try dsimp only at hSw); go_simp; (try with_reducible rfl)
  (try simp only [Act.put, List.getElem_toArray, List.getElem_cons_zero, List.getElem_cons_succ, List.setIfInBounds_toArray, List.set_cons_zero, List.set_cons_succ])
  refine wpAnyT_ready (rs := [6]) (by kernel_rfl) (by simp) ?_
  refine AllReadyT.cons rfl (fun K hK => ?_) AllReadyT.nil
  go_simp
  refine (same_v a b pa pb la ca lb cb _).mono ?_
  rintro e w1 ⟨rfl, k1⟩
  refine hK.out _ _ (blk10 (HG.out.drew.kept k1)) (fun hHeld1 => ?_)
  clear hK K
  (try simp only [Act.put, List.getElem_toArray, List.getElem_cons_zero, List.getElem_cons_succ, List.setIfInBounds_toArray, List.set_cons_zero, List.set_cons_succ])
  refine wpAnyT_ready (rs := [7]) (by kernel_rfl) (by simp) ?_
  refine AllReadyT.cons rfl (fun K hK => ?_) AllReadyT.nil
  go_simp
  refine (vtruth_c _ _).mono ?_
  rintro e w2 ⟨rfl, k2'⟩
  have k2 := k1.trans k2'
  clear k2'
  refine hK.out _ _ (blk10 (HG.out.drew.kept k2)) (fun hHeld2 => ?_)
  clear hK K
  (try simp only [Act.put, List.getElem_toArray, List.getElem_cons_zero, List.getElem_cons_succ, List.setIfInBounds_toArray, List.set_cons_zero, List.set_cons_succ])
  clear hHeld1
  obtain ⟨⟨z0, z1, z2, z3, z4⟩, f0, f1, f2, f3, f4⟩ := blk5 (HB0.out.drew.kept k2)
  have HBE := Lib.hid (HB0.out.drew.kept k2)
  have HKE := Lib.hid (show Kept w w2 from HK0.out.drew.trans k2)
  refine wpAnyT_ready (rs := [8]) (by kernel_rfl) (by simp) ?_
  refine AllReadyT.fin rfl (fun K hK => ?_)
  go_simp
  refine hK.out _ _ ?_
  clear hK K
  (try simp only [Act.put, List.getElem_toArray, List.getElem_cons_zero, List.getElem_cons_succ, List.setIfInBounds_toArray, List.set_cons_zero, List.set_cons_succ])
  refine wpAnyT_done (by kernel_rfl) ?_ _
  clear hHeld0 k1 k2
  go_wp2_with fail
  exact v_endO (r := vB (ordS a b)) rfl (by rfl) rfl rfl HBE.out HKE.out

set_option maxHeartbeats 4000000 in
theorem om_different (a b : V) (pa pb : Option Addr) (la ca lb cb : Nat) (op : ByteArray) (g : Nat) (t : TypeId) (w : World) (hb : Blk w g t (ten a b pa la ca pb lb cb)) :
    Calls Tryz.prog 80 #[.slice (some ⟨g, 0, none⟩) 2 2, .string op] w (OutPost (.val (vB (!ordS a b))) w) := by
  obtain ⟨W0, hW0⟩ : ∃ W, w.alloc (.cells vZ vT) = W := ⟨_, rfl⟩
  obtain ⟨k0, b0, z0⟩ := vnew hW0
  have HG := Lib.hid (hb.kept k0)
  have HW0 := Lib.hid hW0
  have HB0 := Lib.hid b0
  have HK0 := Lib.hid k0
  have HZ := Lib.hid (show g < w.heap.size from hb.lt)
  clear hW0 b0 k0 hb z0
  go_enter Tryz.func80, Tryz.ntmps80
  go_wp2_with (rw [HW0.out])
  refine wp_region_till (S := (fun W => W.cell? ⟨g, 0, none⟩ = some (.int .i64 a.tag) ∧ W.cell? ⟨g, 1, none⟩ = some (.int .i64 a.n) ∧ W.cell? ⟨g, 2, none⟩ = some (.int .u64 (a.bits : Int)) ∧ W.cell? ⟨g, 3, none⟩ = some (.string a.s) ∧ W.cell? ⟨g, 4, none⟩ = some (.slice pa la ca) ∧ W.cell? ⟨g, 5, none⟩ = some (.int .i64 b.tag) ∧ W.cell? ⟨g, 6, none⟩ = some (.int .i64 b.n) ∧ W.cell? ⟨g, 7, none⟩ = some (.int .u64 (b.bits : Int)) ∧ W.cell? ⟨g, 8, none⟩ = some (.string b.s) ∧ W.cell? ⟨g, 9, none⟩ = some (.slice pb lb cb))) 9 (by kernel_rfl) (blk10 HG.out.drew) (fun hHeld0 => ?_)
  refine wpAnyT_take (i := 0) (v := ?_) rfl (by kernel_rfl) (by kernel_rfl) (by kernel_rfl) (fun _ _ _ h => h) (Or.inl ⟨by kernel_rfl, ?_⟩) (by assumption) ?_
  rotate_left
  · intro w hSw; (try dsimp only at hSw); go_simp; (try with_reducible rfl)
  (try simp only [Act.put, List.getElem_toArray, List.getElem_cons_zero, List.getElem_cons_succ, List.setIfInBounds_toArray, List.set_cons_zero, List.set_cons_succ])
  refine wpAnyT_take (i := 1) (v := ?_) rfl (by kernel_rfl) (by kernel_rfl) (by kernel_rfl) (fun _ _ _ h => h) (Or.inl ⟨by kernel_rfl, ?_⟩) (by assumption) ?_
  rotate_left
  · intro w hSw; (try dsimp only at hSw); go_simp; (try with_reducible rfl)
  (try simp only [Act.put, List.getElem_toArray, List.getElem_cons_zero, List.getElem_cons_succ, List.setIfInBounds_toArray, List.set_cons_zero, List.set_cons_succ])
  refine wpAnyT_take (i := 2) (v := ?_) rfl (by kernel_rfl) (by kernel_rfl) (by kernel_rfl) (fun _ _ _ h => h) (Or.inl ⟨by kernel_rfl, ?_⟩) (by assumption) ?_
  rotate_left
  · intro w hSw; (try dsimp only at hSw); go_simp; (try with_reducible rfl)
  (try simp only [Act.put, List.getElem_toArray, List.getElem_cons_zero, List.getElem_cons_succ, List.setIfInBounds_toArray, List.set_cons_zero, List.set_cons_succ])
  refine wpAnyT_take (i := 3) (v := ?_) rfl (by kernel_rfl) (by kernel_rfl) (by kernel_rfl) (fun _ _ _ h => h) (Or.inl ⟨by kernel_rfl, ?_⟩) (by assumption) ?_
  rotate_left
  · intro w hSw; (try dsimp only at hSw); go_simp; (try with_reducible rfl)
  (try simp only [Act.put, List.getElem_toArray, List.getElem_cons_zero, List.getElem_cons_succ, List.setIfInBounds_toArray, List.set_cons_zero, List.set_cons_succ])
  refine wpAnyT_take (i := 4) (v := ?_) rfl (by kernel_rfl) (by kernel_rfl) (by kernel_rfl) (fun _ _ _ h => h) (Or.inl ⟨by kernel_rfl, ?_⟩) (by assumption) ?_
  rotate_left
  · intro w hSw; (try dsimp only at hSw); go_simp; (try with_reducible rfl)
  (try simp only [Act.put, List.getElem_toArray, List.getElem_cons_zero, List.getElem_cons_succ, List.setIfInBounds_toArray, List.set_cons_zero, List.set_cons_succ])
  refine wpAnyT_take (i := 5) (v := ?_) rfl (by kernel_rfl) (by kernel_rfl) (by kernel_rfl) (fun _ _ _ h => h) (Or.inl ⟨by kernel_rfl, ?_⟩) (by assumption) ?_
  rotate_left
  · intro w hSw; (try dsimp only at hSw); go_simp; (try with_reducible rfl)
  (try simp only [Act.put, List.getElem_toArray, List.getElem_cons_zero, List.getElem_cons_succ, List.setIfInBounds_toArray, List.set_cons_zero, List.set_cons_succ])
  refine wpAnyT_ready (rs := [6]) (by kernel_rfl) (by simp) ?_
  refine AllReadyT.cons rfl (fun K hK => ?_) AllReadyT.nil
  go_simp
  refine (same_v a b pa pb la ca lb cb _).mono ?_
  rintro e w1 ⟨rfl, k1⟩
  refine hK.out _ _ (blk10 (HG.out.drew.kept k1)) (fun hHeld1 => ?_)
  clear hK K
  (try simp only [Act.put, List.getElem_toArray, List.getElem_cons_zero, List.getElem_cons_succ, List.setIfInBounds_toArray, List.set_cons_zero, List.set_cons_succ])
  refine wpAnyT_take (i := 7) (v := ?_) rfl (by kernel_rfl) (by kernel_rfl) (by kernel_rfl) (fun _ _ _ h => h) (Or.inl ⟨by kernel_rfl, ?_⟩) (by assumption) ?_
  rotate_left
  · intro w hSw; (try dsimp only at hSw); go_simp; (try with_reducible rfl)
  (try simp only [Act.put, List.getElem_toArray, List.getElem_cons_zero, List.getElem_cons_succ, List.setIfInBounds_toArray, List.set_cons_zero, List.set_cons_succ])
  refine wpAnyT_ready (rs := [8]) (by kernel_rfl) (by simp) ?_
  refine AllReadyT.cons rfl (fun K hK => ?_) AllReadyT.nil
  go_simp
  refine (vtruth_c _ _).mono ?_
  rintro e w2 ⟨rfl, k2'⟩
  have k2 := k1.trans k2'
  clear k2'
  refine hK.out _ _ (blk10 (HG.out.drew.kept k2)) (fun hHeld2 => ?_)
  clear hK K
  (try simp only [Act.put, List.getElem_toArray, List.getElem_cons_zero, List.getElem_cons_succ, List.setIfInBounds_toArray, List.set_cons_zero, List.set_cons_succ])
  clear hHeld1
  obtain ⟨⟨z0, z1, z2, z3, z4⟩, f0, f1, f2, f3, f4⟩ := blk5 (HB0.out.drew.kept k2)
  have HBE := Lib.hid (HB0.out.drew.kept k2)
  have HKE := Lib.hid (show Kept w w2 from HK0.out.drew.trans k2)
  refine wpAnyT_ready (rs := [9]) (by kernel_rfl) (by simp) ?_
  refine AllReadyT.fin rfl (fun K hK => ?_)
  go_simp
  refine hK.out _ _ ?_
  clear hK K
  (try simp only [Act.put, List.getElem_toArray, List.getElem_cons_zero, List.getElem_cons_succ, List.setIfInBounds_toArray, List.set_cons_zero, List.set_cons_succ])
  refine wpAnyT_done (by kernel_rfl) ?_ _
  clear hHeld0 k1 k2
  go_wp2_with fail
  exact v_endO (r := vB (!ordS a b)) rfl (by rfl) rfl rfl HBE.out HKE.out

set_option maxHeartbeats 4000000 in
theorem om_less (a b : V) (pa pb : Option Addr) (la ca lb cb : Nat) (op : ByteArray) (g : Nat) (t : TypeId) (w : World) (hb : Blk w g t (ten a b pa la ca pb lb cb)) :
    Calls Tryz.prog 82 #[.slice (some ⟨g, 0, none⟩) 2 2, .string op] w (OutPost (.val (vB (ordL a b))) w) := by
  obtain ⟨W0, hW0⟩ : ∃ W, w.alloc (.cells vZ vT) = W := ⟨_, rfl⟩
  obtain ⟨k0, b0, z0⟩ := vnew hW0
  have HG := Lib.hid (hb.kept k0)
  have HW0 := Lib.hid hW0
  have HB0 := Lib.hid b0
  have HK0 := Lib.hid k0
  have HZ := Lib.hid (show g < w.heap.size from hb.lt)
  clear hW0 b0 k0 hb z0
  go_enter Tryz.func82, Tryz.ntmps82
  go_wp2_with (rw [HW0.out])
  refine wp_region_held_drew (S := (fun W => W.cell? ⟨g, 0, none⟩ = some (.int .i64 a.tag) ∧ W.cell? ⟨g, 1, none⟩ = some (.int .i64 a.n) ∧ W.cell? ⟨g, 2, none⟩ = some (.int .u64 (a.bits : Int)) ∧ W.cell? ⟨g, 3, none⟩ = some (.string a.s) ∧ W.cell? ⟨g, 4, none⟩ = some (.slice pa la ca) ∧ W.cell? ⟨g, 5, none⟩ = some (.int .i64 b.tag) ∧ W.cell? ⟨g, 6, none⟩ = some (.int .i64 b.n) ∧ W.cell? ⟨g, 7, none⟩ = some (.int .u64 (b.bits : Int)) ∧ W.cell? ⟨g, 8, none⟩ = some (.string b.s) ∧ W.cell? ⟨g, 9, none⟩ = some (.slice pb lb cb))) (by kernel_rfl) (blk10 HG.out.drew) (fun hHeld0 => ?_)
  refine wpAnyH_take (i := 0) (v := ?_) rfl (by kernel_rfl) (by kernel_rfl) (by kernel_rfl) (fun _ _ _ h => h) (Or.inl ⟨by kernel_rfl, ?_⟩) (by assumption) ?_
  rotate_left
  · intro w hSw; (try dsimp only at hSw); go_simp; (try with_reducible rfl)
  (try simp only [Act.put, List.getElem_toArray, List.getElem_cons_zero, List.getElem_cons_succ, List.setIfInBounds_toArray, List.set_cons_zero, List.set_cons_succ])
  refine wpAnyH_take (i := 1) (v := ?_) rfl (by kernel_rfl) (by kernel_rfl) (by kernel_rfl) (fun _ _ _ h => h) (Or.inl ⟨by kernel_rfl, ?_⟩) (by assumption) ?_
  rotate_left
  · intro w hSw; (try dsimp only at hSw); go_simp; (try with_reducible rfl)
  (try simp only [Act.put, List.getElem_toArray, List.getElem_cons_zero, List.getElem_cons_succ, List.setIfInBounds_toArray, List.set_cons_zero, List.set_cons_succ])
  refine wpAnyH_take (i := 2) (v := ?_) rfl (by kernel_rfl) (by kernel_rfl) (by kernel_rfl) (fun _ _ _ h => h) (Or.inl ⟨by kernel_rfl, ?_⟩) (by assumption) ?_
  rotate_left
  · intro w hSw; (try dsimp only at hSw); go_simp; (try with_reducible rfl)
  (try simp only [Act.put, List.getElem_toArray, List.getElem_cons_zero, List.getElem_cons_succ, List.setIfInBounds_toArray, List.set_cons_zero, List.set_cons_succ])
  refine wpAnyH_take (i := 3) (v := ?_) rfl (by kernel_rfl) (by kernel_rfl) (by kernel_rfl) (fun _ _ _ h => h) (Or.inl ⟨by kernel_rfl, ?_⟩) (by assumption) ?_
  rotate_left
  · intro w hSw; (try dsimp only at hSw); go_simp; (try with_reducible rfl)
  (try simp only [Act.put, List.getElem_toArray, List.getElem_cons_zero, List.getElem_cons_succ, List.setIfInBounds_toArray, List.set_cons_zero, List.set_cons_succ])
  refine wpAnyH_take (i := 4) (v := ?_) rfl (by kernel_rfl) (by kernel_rfl) (by kernel_rfl) (fun _ _ _ h => h) (Or.inl ⟨by kernel_rfl, ?_⟩) (by assumption) ?_
  rotate_left
  · intro w hSw; (try dsimp only at hSw); go_simp; (try with_reducible rfl)
  (try simp only [Act.put, List.getElem_toArray, List.getElem_cons_zero, List.getElem_cons_succ, List.setIfInBounds_toArray, List.set_cons_zero, List.set_cons_succ])
  refine wpAnyH_take (i := 5) (v := ?_) rfl (by kernel_rfl) (by kernel_rfl) (by kernel_rfl) (fun _ _ _ h => h) (Or.inl ⟨by kernel_rfl, ?_⟩) (by assumption) ?_
  rotate_left
  · intro w hSw; (try dsimp only at hSw); go_simp; (try with_reducible rfl)
  (try simp only [Act.put, List.getElem_toArray, List.getElem_cons_zero, List.getElem_cons_succ, List.setIfInBounds_toArray, List.set_cons_zero, List.set_cons_succ])
  refine wpAnyH_ready (rs := [6]) (by kernel_rfl) (by simp) ?_
  refine AllReadyH.cons rfl (fun K hK => ?_) AllReadyH.nil
  go_simp
  refine (order_c a b pa pb la ca lb cb _).mono ?_
  rintro e w1 ⟨rfl, k1⟩
  refine hK.out _ _ (blk10 (HG.out.drew.kept k1)) (fun hHeld1 => ?_)
  clear hK K
  (try simp only [Act.put, List.getElem_toArray, List.getElem_cons_zero, List.getElem_cons_succ, List.setIfInBounds_toArray, List.set_cons_zero, List.set_cons_succ])
  refine wpAnyH_take (i := 7) (v := ?_) rfl (by kernel_rfl) (by kernel_rfl) (by kernel_rfl) (fun _ _ _ h => h) (Or.inl ⟨by kernel_rfl, ?_⟩) (by assumption) ?_
  rotate_left
  · intro w hSw; (try dsimp only at hSw); go_simp; (try with_reducible rfl)
  (try simp only [Act.put, List.getElem_toArray, List.getElem_cons_zero, List.getElem_cons_succ, List.setIfInBounds_toArray, List.set_cons_zero, List.set_cons_succ])
  refine wpAnyH_take (i := 8) (v := ?_) rfl (by kernel_rfl) (by kernel_rfl) (by kernel_rfl) (fun _ _ _ h => h) (Or.inl ⟨by kernel_rfl, ?_⟩) (by assumption) ?_
  rotate_left
  · intro w hSw; (try dsimp only at hSw); go_simp; (try with_reducible rfl)
  (try simp only [Act.put, List.getElem_toArray, List.getElem_cons_zero, List.getElem_cons_succ, List.setIfInBounds_toArray, List.set_cons_zero, List.set_cons_succ])
  refine wpAnyH_take (i := 9) (v := ?_) rfl (by kernel_rfl) (by kernel_rfl) (by kernel_rfl) (fun _ _ _ h => h) (Or.inl ⟨by kernel_rfl, ?_⟩) (by assumption) ?_
  rotate_left
  · intro w hSw; (try dsimp only at hSw); go_simp; (try with_reducible rfl)
  (try simp only [Act.put, List.getElem_toArray, List.getElem_cons_zero, List.getElem_cons_succ, List.setIfInBounds_toArray, List.set_cons_zero, List.set_cons_succ])
  refine wpAnyH_take (i := 10) (v := ?_) rfl (by kernel_rfl) (by kernel_rfl) (by kernel_rfl) (fun _ _ _ h => h) (Or.inl ⟨by kernel_rfl, ?_⟩) (by assumption) ?_
  rotate_left
  · intro w hSw; (try dsimp only at hSw); go_simp; (try with_reducible rfl)
  (try simp only [Act.put, List.getElem_toArray, List.getElem_cons_zero, List.getElem_cons_succ, List.setIfInBounds_toArray, List.set_cons_zero, List.set_cons_succ])
  refine wpAnyH_take (i := 11) (v := ?_) rfl (by kernel_rfl) (by kernel_rfl) (by kernel_rfl) (fun _ _ _ h => h) (Or.inl ⟨by kernel_rfl, ?_⟩) (by assumption) ?_
  rotate_left
  · intro w hSw; (try dsimp only at hSw); go_simp; (try with_reducible rfl)
  (try simp only [Act.put, List.getElem_toArray, List.getElem_cons_zero, List.getElem_cons_succ, List.setIfInBounds_toArray, List.set_cons_zero, List.set_cons_succ])
  refine wpAnyH_done (by kernel_rfl) ?_ _
  have HB1 := Lib.hid (HB0.out.drew.kept k1)
  have HK1 := Lib.hid (HK0.out.drew.trans k1)
  clear hHeld0 hHeld1 k1
  go_wp2_with fail
  refine (vtruth_c _ _).mono ?_
  rintro e w2 ⟨rfl, k2⟩
  obtain ⟨⟨z0, z1, z2, z3, z4⟩, f0, f1, f2, f3, f4⟩ := blk5 (HB1.out.kept k2)
  have HB2 := Lib.hid (HB1.out.kept k2)
  have HK2 := Lib.hid (HK1.out.trans k2)
  clear k2
  go_wp2_with fail
  exact v_endO (r := vB (ordL a b)) rfl (by rfl) rfl rfl HB2.out HK2.out

set_option maxHeartbeats 4000000 in
theorem om_atMost (a b : V) (pa pb : Option Addr) (la ca lb cb : Nat) (op : ByteArray) (g : Nat) (t : TypeId) (w : World) (hb : Blk w g t (ten a b pa la ca pb lb cb)) :
    Calls Tryz.prog 83 #[.slice (some ⟨g, 0, none⟩) 2 2, .string op] w (OutPost (.val (vB (ordL a b || ordS a b))) w) := by
  obtain ⟨W0, hW0⟩ : ∃ W, w.alloc (.cells vZ vT) = W := ⟨_, rfl⟩
  obtain ⟨k0, b0, z0⟩ := vnew hW0
  have HG := Lib.hid (hb.kept k0)
  have HW0 := Lib.hid hW0
  have HB0 := Lib.hid b0
  have HK0 := Lib.hid k0
  have HZ := Lib.hid (show g < w.heap.size from hb.lt)
  clear hW0 b0 k0 hb z0
  go_enter Tryz.func83, Tryz.ntmps83
  go_wp2_with (rw [HW0.out])
  refine wp_region_held_drew (S := (fun W => W.cell? ⟨g, 0, none⟩ = some (.int .i64 a.tag) ∧ W.cell? ⟨g, 1, none⟩ = some (.int .i64 a.n) ∧ W.cell? ⟨g, 2, none⟩ = some (.int .u64 (a.bits : Int)) ∧ W.cell? ⟨g, 3, none⟩ = some (.string a.s) ∧ W.cell? ⟨g, 4, none⟩ = some (.slice pa la ca) ∧ W.cell? ⟨g, 5, none⟩ = some (.int .i64 b.tag) ∧ W.cell? ⟨g, 6, none⟩ = some (.int .i64 b.n) ∧ W.cell? ⟨g, 7, none⟩ = some (.int .u64 (b.bits : Int)) ∧ W.cell? ⟨g, 8, none⟩ = some (.string b.s) ∧ W.cell? ⟨g, 9, none⟩ = some (.slice pb lb cb))) (by kernel_rfl) (blk10 HG.out.drew) (fun hHeld0 => ?_)
  refine wpAnyH_take (i := 0) (v := ?_) rfl (by kernel_rfl) (by kernel_rfl) (by kernel_rfl) (fun _ _ _ h => h) (Or.inl ⟨by kernel_rfl, ?_⟩) (by assumption) ?_
  rotate_left
  · intro w hSw; (try dsimp only at hSw); go_simp; (try with_reducible rfl)
  (try simp only [Act.put, List.getElem_toArray, List.getElem_cons_zero, List.getElem_cons_succ, List.setIfInBounds_toArray, List.set_cons_zero, List.set_cons_succ])
  refine wpAnyH_take (i := 1) (v := ?_) rfl (by kernel_rfl) (by kernel_rfl) (by kernel_rfl) (fun _ _ _ h => h) (Or.inl ⟨by kernel_rfl, ?_⟩) (by assumption) ?_
  rotate_left
  · intro w hSw; (try dsimp only at hSw); go_simp; (try with_reducible rfl)
  (try simp only [Act.put, List.getElem_toArray, List.getElem_cons_zero, List.getElem_cons_succ, List.setIfInBounds_toArray, List.set_cons_zero, List.set_cons_succ])
  refine wpAnyH_take (i := 2) (v := ?_) rfl (by kernel_rfl) (by kernel_rfl) (by kernel_rfl) (fun _ _ _ h => h) (Or.inl ⟨by kernel_rfl, ?_⟩) (by assumption) ?_
  rotate_left
  · intro w hSw; (try dsimp only at hSw); go_simp; (try with_reducible rfl)
  (try simp only [Act.put, List.getElem_toArray, List.getElem_cons_zero, List.getElem_cons_succ, List.setIfInBounds_toArray, List.set_cons_zero, List.set_cons_succ])
  refine wpAnyH_take (i := 3) (v := ?_) rfl (by kernel_rfl) (by kernel_rfl) (by kernel_rfl) (fun _ _ _ h => h) (Or.inl ⟨by kernel_rfl, ?_⟩) (by assumption) ?_
  rotate_left
  · intro w hSw; (try dsimp only at hSw); go_simp; (try with_reducible rfl)
  (try simp only [Act.put, List.getElem_toArray, List.getElem_cons_zero, List.getElem_cons_succ, List.setIfInBounds_toArray, List.set_cons_zero, List.set_cons_succ])
  refine wpAnyH_take (i := 4) (v := ?_) rfl (by kernel_rfl) (by kernel_rfl) (by kernel_rfl) (fun _ _ _ h => h) (Or.inl ⟨by kernel_rfl, ?_⟩) (by assumption) ?_
  rotate_left
  · intro w hSw; (try dsimp only at hSw); go_simp; (try with_reducible rfl)
  (try simp only [Act.put, List.getElem_toArray, List.getElem_cons_zero, List.getElem_cons_succ, List.setIfInBounds_toArray, List.set_cons_zero, List.set_cons_succ])
  refine wpAnyH_take (i := 5) (v := ?_) rfl (by kernel_rfl) (by kernel_rfl) (by kernel_rfl) (fun _ _ _ h => h) (Or.inl ⟨by kernel_rfl, ?_⟩) (by assumption) ?_
  rotate_left
  · intro w hSw; (try dsimp only at hSw); go_simp; (try with_reducible rfl)
  (try simp only [Act.put, List.getElem_toArray, List.getElem_cons_zero, List.getElem_cons_succ, List.setIfInBounds_toArray, List.set_cons_zero, List.set_cons_succ])
  refine wpAnyH_ready (rs := [6]) (by kernel_rfl) (by simp) ?_
  refine AllReadyH.cons rfl (fun K hK => ?_) AllReadyH.nil
  go_simp
  refine (order_c a b pa pb la ca lb cb _).mono ?_
  rintro e w1 ⟨rfl, k1⟩
  refine hK.out _ _ (blk10 (HG.out.drew.kept k1)) (fun hHeld1 => ?_)
  clear hK K
  (try simp only [Act.put, List.getElem_toArray, List.getElem_cons_zero, List.getElem_cons_succ, List.setIfInBounds_toArray, List.set_cons_zero, List.set_cons_succ])
  refine wpAnyH_take (i := 7) (v := ?_) rfl (by kernel_rfl) (by kernel_rfl) (by kernel_rfl) (fun _ _ _ h => h) (Or.inl ⟨by kernel_rfl, ?_⟩) (by assumption) ?_
  rotate_left
  · intro w hSw; (try dsimp only at hSw); go_simp; (try with_reducible rfl)
  (try simp only [Act.put, List.getElem_toArray, List.getElem_cons_zero, List.getElem_cons_succ, List.setIfInBounds_toArray, List.set_cons_zero, List.set_cons_succ])
  refine wpAnyH_take (i := 8) (v := ?_) rfl (by kernel_rfl) (by kernel_rfl) (by kernel_rfl) (fun _ _ _ h => h) (Or.inl ⟨by kernel_rfl, ?_⟩) (by assumption) ?_
  rotate_left
  · intro w hSw; (try dsimp only at hSw); go_simp; (try with_reducible rfl)
  (try simp only [Act.put, List.getElem_toArray, List.getElem_cons_zero, List.getElem_cons_succ, List.setIfInBounds_toArray, List.set_cons_zero, List.set_cons_succ])
  refine wpAnyH_take (i := 9) (v := ?_) rfl (by kernel_rfl) (by kernel_rfl) (by kernel_rfl) (fun _ _ _ h => h) (Or.inl ⟨by kernel_rfl, ?_⟩) (by assumption) ?_
  rotate_left
  · intro w hSw; (try dsimp only at hSw); go_simp; (try with_reducible rfl)
  (try simp only [Act.put, List.getElem_toArray, List.getElem_cons_zero, List.getElem_cons_succ, List.setIfInBounds_toArray, List.set_cons_zero, List.set_cons_succ])
  refine wpAnyH_take (i := 10) (v := ?_) rfl (by kernel_rfl) (by kernel_rfl) (by kernel_rfl) (fun _ _ _ h => h) (Or.inl ⟨by kernel_rfl, ?_⟩) (by assumption) ?_
  rotate_left
  · intro w hSw; (try dsimp only at hSw); go_simp; (try with_reducible rfl)
  (try simp only [Act.put, List.getElem_toArray, List.getElem_cons_zero, List.getElem_cons_succ, List.setIfInBounds_toArray, List.set_cons_zero, List.set_cons_succ])
  refine wpAnyH_take (i := 11) (v := ?_) rfl (by kernel_rfl) (by kernel_rfl) (by kernel_rfl) (fun _ _ _ h => h) (Or.inl ⟨by kernel_rfl, ?_⟩) (by assumption) ?_
  rotate_left
  · intro w hSw; (try dsimp only at hSw); go_simp; (try with_reducible rfl)
  (try simp only [Act.put, List.getElem_toArray, List.getElem_cons_zero, List.getElem_cons_succ, List.setIfInBounds_toArray, List.set_cons_zero, List.set_cons_succ])
  refine wpAnyH_done (by kernel_rfl) ?_ _
  have HB1 := Lib.hid (HB0.out.drew.kept k1)
  have HK1 := Lib.hid (HK0.out.drew.trans k1)
  clear hHeld0 hHeld1 k1
  cases hL : ordL a b with
  | true =>
    go_wp2_with fail
    refine (vtruth_c true _).mono ?_
    rintro e w2 ⟨rfl, k2⟩
    obtain ⟨⟨z0, z1, z2, z3, z4⟩, f0, f1, f2, f3, f4⟩ := blk5 (HB1.out.kept k2)
    have HB2 := Lib.hid (HB1.out.kept k2)
    have HK2 := Lib.hid (HK1.out.trans k2)
    clear k2
    go_wp2_with fail
    exact v_endO (r := vB true) (by rw [hL]; rfl) (by rfl) rfl rfl HB2.out HK2.out
  | false =>
    go_wp2_with fail
    refine (vtruth_c (ordS a b) _).mono ?_
    rintro e w2 ⟨rfl, k2⟩
    obtain ⟨⟨z0, z1, z2, z3, z4⟩, f0, f1, f2, f3, f4⟩ := blk5 (HB1.out.kept k2)
    have HB2 := Lib.hid (HB1.out.kept k2)
    have HK2 := Lib.hid (HK1.out.trans k2)
    clear k2
    go_wp2_with fail
    exact v_endO (r := vB (ordS a b)) (by rw [hL]; rfl) (by rfl) rfl rfl HB2.out HK2.out

set_option maxHeartbeats 4000000 in
theorem om_calculated (a b : V) (pa pb : Option Addr) (la ca lb cb : Nat) (op : ByteArray) (g : Nat) (t : TypeId) (w : World) (hb : Blk w g t (ten a b pa la ca pb lb cb)) (ho : op.size ≤ 1000000) (ha : a.s.size ≤ 1000000) (hbs : b.s.size ≤ 1000000) :
    Calls Tryz.prog 85 #[.slice (some ⟨g, 0, none⟩) 2 2, .string op] w (OutPost (calcO op a b) w) := by
  obtain ⟨W0, hW0⟩ : ∃ W, w.alloc (.cells vZ vT) = W := ⟨_, rfl⟩
  obtain ⟨k0, b0, z0⟩ := vnew hW0
  have HG := Lib.hid (hb.kept k0)
  have HW0 := Lib.hid hW0
  have HB0 := Lib.hid b0
  have HK0 := Lib.hid k0
  have HZ := Lib.hid (show g < w.heap.size from hb.lt)
  clear hW0 b0 k0 hb z0
  have HSZ := Lib.hid (And.intro ho (And.intro ha hbs))
  clear ho ha hbs
  go_enter Tryz.func85, Tryz.ntmps85
  go_wp2_with (rw [HW0.out])
  obtain ⟨D, hD⟩ : ∃ D, W0.drew = D := ⟨_, rfl⟩
  have HD := Lib.hid (show Blk D g t (ten a b pa la ca pb lb cb) ∧ Blk D w.heap.size vT vZ ∧ Kept w D by rw [← hD]; exact ⟨HG.out.drew, HB0.out.drew, HK0.out.drew⟩)
  refine wp_region_till (S := (fun W => W.cell? ⟨g, 0, none⟩ = some (.int .i64 a.tag) ∧ W.cell? ⟨g, 1, none⟩ = some (.int .i64 a.n) ∧ W.cell? ⟨g, 2, none⟩ = some (.int .u64 (a.bits : Int)) ∧ W.cell? ⟨g, 3, none⟩ = some (.string a.s) ∧ W.cell? ⟨g, 4, none⟩ = some (.slice pa la ca) ∧ W.cell? ⟨g, 5, none⟩ = some (.int .i64 b.tag) ∧ W.cell? ⟨g, 6, none⟩ = some (.int .i64 b.n) ∧ W.cell? ⟨g, 7, none⟩ = some (.int .u64 (b.bits : Int)) ∧ W.cell? ⟨g, 8, none⟩ = some (.string b.s) ∧ W.cell? ⟨g, 9, none⟩ = some (.slice pb lb cb))) 9 (by kernel_rfl) (by rw [hD]; exact blk10 HD.out.1) (fun hHeld0 => ?_)
  rw [hD] at hHeld0 ⊢
  clear hD
  refine wpAnyT_take (i := 0) (v := ?_) rfl (by kernel_rfl) (by kernel_rfl) (by kernel_rfl) (fun _ _ _ h => h) (Or.inl ⟨by kernel_rfl, ?_⟩) (by assumption) ?_
  rotate_left
  · intro w hSw; (try dsimp only at hSw); go_simp; (try with_reducible rfl)
  (try simp only [Act.put, List.getElem_toArray, List.getElem_cons_zero, List.getElem_cons_succ, List.setIfInBounds_toArray, List.set_cons_zero, List.set_cons_succ])
  refine wpAnyT_take (i := 1) (v := ?_) rfl (by kernel_rfl) (by kernel_rfl) (by kernel_rfl) (fun _ _ _ h => h) (Or.inl ⟨by kernel_rfl, ?_⟩) (by assumption) ?_
  rotate_left
  · intro w hSw; (try dsimp only at hSw); go_simp; (try with_reducible rfl)
  (try simp only [Act.put, List.getElem_toArray, List.getElem_cons_zero, List.getElem_cons_succ, List.setIfInBounds_toArray, List.set_cons_zero, List.set_cons_succ])
  refine wpAnyT_take (i := 2) (v := ?_) rfl (by kernel_rfl) (by kernel_rfl) (by kernel_rfl) (fun _ _ _ h => h) (Or.inl ⟨by kernel_rfl, ?_⟩) (by assumption) ?_
  rotate_left
  · intro w hSw; (try dsimp only at hSw); go_simp; (try with_reducible rfl)
  (try simp only [Act.put, List.getElem_toArray, List.getElem_cons_zero, List.getElem_cons_succ, List.setIfInBounds_toArray, List.set_cons_zero, List.set_cons_succ])
  refine wpAnyT_take (i := 3) (v := ?_) rfl (by kernel_rfl) (by kernel_rfl) (by kernel_rfl) (fun _ _ _ h => h) (Or.inl ⟨by kernel_rfl, ?_⟩) (by assumption) ?_
  rotate_left
  · intro w hSw; (try dsimp only at hSw); go_simp; (try with_reducible rfl)
  (try simp only [Act.put, List.getElem_toArray, List.getElem_cons_zero, List.getElem_cons_succ, List.setIfInBounds_toArray, List.set_cons_zero, List.set_cons_succ])
  refine wpAnyT_take (i := 4) (v := ?_) rfl (by kernel_rfl) (by kernel_rfl) (by kernel_rfl) (fun _ _ _ h => h) (Or.inl ⟨by kernel_rfl, ?_⟩) (by assumption) ?_
  rotate_left
  · intro w hSw; (try dsimp only at hSw); go_simp; (try with_reducible rfl)
  (try simp only [Act.put, List.getElem_toArray, List.getElem_cons_zero, List.getElem_cons_succ, List.setIfInBounds_toArray, List.set_cons_zero, List.set_cons_succ])
  refine wpAnyT_take (i := 5) (v := ?_) rfl (by kernel_rfl) (by kernel_rfl) (by kernel_rfl) (fun _ _ _ h => h) (Or.inl ⟨by kernel_rfl, ?_⟩) (by assumption) ?_
  rotate_left
  · intro w hSw; (try dsimp only at hSw); go_simp; (try with_reducible rfl)
  (try simp only [Act.put, List.getElem_toArray, List.getElem_cons_zero, List.getElem_cons_succ, List.setIfInBounds_toArray, List.set_cons_zero, List.set_cons_succ])
  refine wpAnyT_ready (rs := [6,7]) (by kernel_rfl) (by simp) ?_
  refine AllReadyT.cons rfl (fun K hK => ?_) (AllReadyT.cons rfl (fun K hK => ?_) AllReadyT.nil)
  · go_simp
    obtain ⟨X1, hX1⟩ : ∃ W, D.alloc (.cells vZ vT) = W := ⟨_, rfl⟩
    obtain ⟨x1, y1, z1⟩ := vnew hX1
    rw [hX1]
    refine hK.out _ _ (blk10 (HD.out.1.kept x1)) (fun hHeld1 => ?_)
    clear hK K
    (try simp only [Act.put, List.getElem_toArray, List.getElem_cons_zero, List.getElem_cons_succ, List.setIfInBounds_toArray, List.set_cons_zero, List.set_cons_succ])
    refine wpAnyT_ready (rs := [7]) (by kernel_rfl) (by simp) ?_
    refine AllReadyT.cons rfl (fun K hK => ?_) AllReadyT.nil
    go_simp
    obtain ⟨X2, hX2⟩ : ∃ W, X1.alloc (.cells vZ vT) = W := ⟨_, rfl⟩
    obtain ⟨x2, y2, z2⟩ := vnew hX2
    rw [hX2]
    rw [z1] at y2
    refine hK.out _ _ (blk10 (HD.out.1.kept (x1.trans x2))) (fun hHeld2 => ?_)
    clear hK K
    (try simp only [Act.put, List.getElem_toArray, List.getElem_cons_zero, List.getElem_cons_succ, List.setIfInBounds_toArray, List.set_cons_zero, List.set_cons_succ])
    have bP := y1.kept x2
    have bZ := HD.out.2.1.kept (x1.trans x2)
    have bG := HD.out.1.kept (x1.trans x2)
    have kZ := HD.out.2.2.trans (x1.trans x2)
    have HZZ := Lib.hid (show w.heap.size < D.heap.size from HD.out.2.1.lt)
    clear hHeld0 hHeld1 hX1 hX2 x1 x2 z1 z2
    obtain ⟨⟨p0, p1, p2, p3, p4⟩, q0, q1, q2, q3, q4⟩ := blk5 bP
    obtain ⟨X3, hX3⟩ : ∃ W, put5 X2 (D.heap.size) (.int .i64 a.tag) (.int .i64 a.n) (.int .u64 (a.bits : Int)) (.string a.s) (.slice pa la ca) = W := ⟨_, rfl⟩
    have o3 : Only (· = D.heap.size) X2 X3 := by rw [← hX3]; exact put5_only _ _ _ _ _ _ _
    have bA3 : Blk X3 (D.heap.size) vT (five a pa la ca) := by rw [← hX3]; exact put5_blk bP _ _ _ _ _
    have bB3 := y2.only o3 (by omega)
    have bG3 := bG.only o3 (by have := HZ.out; have := HZZ.out; omega)
    have HX3 := Lib.hid (show ((((X2.setCell ⟨D.heap.size, 0, none⟩ (.int .i64 a.tag)).setCell ⟨D.heap.size, 1, none⟩ (.int .i64 a.n)).setCell ⟨D.heap.size, 2, none⟩ (.int .u64 (a.bits : Int))).setCell ⟨D.heap.size, 3, none⟩ (.string a.s)).setCell ⟨D.heap.size, 4, none⟩ (.slice pa la ca) = X3 from hX3)
    obtain ⟨W4, hW4⟩ : ∃ W, put5 X3 (D.heap.size + 1) (.int .i64 b.tag) (.int .i64 b.n) (.int .u64 (b.bits : Int)) (.string b.s) (.slice pb lb cb) = W := ⟨_, rfl⟩
    have o4 : Only (· = D.heap.size + 1) X3 W4 := by rw [← hW4]; exact put5_only _ _ _ _ _ _ _
    have bB : Blk W4 (D.heap.size + 1) vT (five b pb lb cb) := by rw [← hW4]; exact put5_blk bB3 _ _ _ _ _
    have bA := bA3.only o4 (by omega)
    have bR := (bZ.only o3 (by have := HZZ.out; omega)).only o4 (by have := HZZ.out; omega)
    have kR : Kept w W4 := (kZ.only o3 rfl (fun k e => by have := HZZ.out; omega)).only o4 rfl (fun k e => by have := HZZ.out; omega)
    have HW4 := Lib.hid (show ((((X3.setCell ⟨D.heap.size + 1, 0, none⟩ (.int .i64 b.tag)).setCell ⟨D.heap.size + 1, 1, none⟩ (.int .i64 b.n)).setCell ⟨D.heap.size + 1, 2, none⟩ (.int .u64 (b.bits : Int))).setCell ⟨D.heap.size + 1, 3, none⟩ (.string b.s)).setCell ⟨D.heap.size + 1, 4, none⟩ (.slice pb lb cb) = W4 from hW4)
    clear hX3 hW4 o3 o4 bA3 bG bP y1 y2 bZ kZ
    refine wpAnyT_ready (rs := [8]) (by kernel_rfl) (by simp) ?_
    refine AllReadyT.cons rfl (fun K hK => ?_) AllReadyT.nil
    go_simp
    rw [HX3.out]
    refine hK.out _ _ (blk10 bG3) (fun hHeld3 => ?_)
    clear hK K
    (try simp only [Act.put, List.getElem_toArray, List.getElem_cons_zero, List.getElem_cons_succ, List.setIfInBounds_toArray, List.set_cons_zero, List.set_cons_succ])
    clear p0 p1 p2 p3 p4 q0 q1 q2 q3 q4 hHeld2
    obtain ⟨⟨p0, p1, p2, p3, p4⟩, q0, q1, q2, q3, q4⟩ := blk5 bB3
    refine wpAnyT_ready (rs := [9]) (by kernel_rfl) (by simp) ?_
    refine AllReadyT.fin rfl (fun K hK => ?_)
    go_simp
    rw [HW4.out]
    refine hK.out _ _ ?_
    clear hK K
    (try simp only [Act.put, List.getElem_toArray, List.getElem_cons_zero, List.getElem_cons_succ, List.setIfInBounds_toArray, List.set_cons_zero, List.set_cons_succ])
    refine wpAnyT_done (by kernel_rfl) ?_ _
    clear hHeld3 bG3 bB3 p0 p1 p2 p3 p4 q0 q1 q2 q3 q4
    have HA4 := Lib.hid (show Blk W4 (D.heap.size) vT (five a pa la ca) from bA)
    have HB4 := Lib.hid (show Blk W4 (D.heap.size + 1) vT (five b pb lb cb) from bB)
    have HR4 := Lib.hid bR
    have HK4 := Lib.hid kR
    obtain ⟨⟨x0, x1, x2, x3, x4⟩, _⟩ := blk5 bA
    obtain ⟨⟨y0, y1, y2, y3, y4⟩, _⟩ := blk5 bB
    clear bA bB bR kR
    by_cases h1 : a.tag = 1
    · have HO := Lib.hid (show calcO op a b = if doE op.data.toList b.n = 3 then .trap 2 else .val (vI (doV op.data.toList a.n b.n)) from if_pos h1)
      have c1 : (a.tag == 1) = true := by rw [h1]; rfl
      have HC := Lib.hid (calI_c op a.n b.n (by have := HSZ.out.1; unfold maxLen; omega) W4)
      clear h1
      go_wp2_with fail
      refine HC.out.mono ?_
      rintro e w5 (⟨v, hv, rfl, k5⟩ | ⟨hv, rfl, k5⟩)
      · by_cases hE : doE op.data.toList b.n = 3
        · rw [if_pos hE] at hv; cases hv
        rw [if_neg hE] at hv
        cases hv
        have HR := Lib.hid (HO.out.trans (if_neg hE))
        have HR5 := Lib.hid (HR4.out.kept k5)
        have HK5 := Lib.hid (HK4.out.trans k5)
        clear hE k5
        go_wp2_with fail
        refine (vint_c _ _).mono ?_
        rintro e w6 ⟨rfl, k6⟩
        obtain ⟨⟨z0, z1, z2, z3, z4⟩, f0, f1, f2, f3, f4⟩ := blk5 (HR5.out.kept k6)
        have HR6 := Lib.hid (HR5.out.kept k6)
        have HK6 := Lib.hid (HK5.out.trans k6)
        clear k6
        go_wp2_with fail
        exact v_endO (r := vI (doV op.data.toList a.n b.n)) HR.out (by rfl) rfl rfl HR6.out HK6.out
      · by_cases hE : doE op.data.toList b.n = 3
        · have HR := Lib.hid (HO.out.trans (if_pos hE))
          have HK5 := Lib.hid (HK4.out.trans k5)
          clear hE k5 hv
          go_wp2_with fail
          exact ⟨rfl, .inr ⟨2, HR.out, rfl, HK5.out⟩⟩
        · rw [if_neg hE] at hv; cases hv
    by_cases h2 : a.tag = 2
    · have HO := Lib.hid (show calcO op a b = .val (vR (rdo op a.bits b.bits)) from (if_neg h1).trans (if_pos h2))
      have c1 : (a.tag == 1) = false := by rw [h2]; rfl
      have c2 : (a.tag == 2) = true := by rw [h2]; rfl
      have HC := Lib.hid (calU_c op a.bits b.bits W4)
      clear h1 h2
      go_wp2_with fail
      refine HC.out.mono ?_
      rintro e w5 ⟨rfl, k5⟩
      have HR5 := Lib.hid (HR4.out.kept k5)
      have HK5 := Lib.hid (HK4.out.trans k5)
      clear k5
      go_wp2_with fail
      refine (vreal_c _ _).mono ?_
      rintro e w6 ⟨rfl, k6⟩
      obtain ⟨⟨z0, z1, z2, z3, z4⟩, f0, f1, f2, f3, f4⟩ := blk5 (HR5.out.kept k6)
      have HR6 := Lib.hid (HR5.out.kept k6)
      have HK6 := Lib.hid (HK5.out.trans k6)
      clear k6
      go_wp2_with fail
      exact v_endO (r := vR (rdo op a.bits b.bits)) HO.out (by rfl) rfl rfl HR6.out HK6.out
    · have HO := Lib.hid (show calcO op a b = if 1000 < (a.s.size : Int) + b.s.size then .trap 6 else .val (vS (a.s ++ b.s)) from (if_neg h1).trans (if_neg h2))
      have c1 : (a.tag == 1) = false := by simpa using h1
      have c2 : (a.tag == 2) = false := by simpa using h2
      have HC := Lib.hid (calT_c op a.s b.s HSZ.out.2.1 HSZ.out.2.2 W4)
      clear h1 h2
      go_wp2_with fail
      refine HC.out.mono ?_
      rintro e w5 (⟨v, hv, rfl, k5⟩ | ⟨hv, rfl, k5⟩)
      · by_cases hE : 1000 < (a.s.size : Int) + b.s.size
        · rw [if_pos hE] at hv; cases hv
        rw [if_neg hE] at hv
        cases hv
        have HR := Lib.hid (HO.out.trans (if_neg hE))
        have HK5 := Lib.hid (HK4.out.trans k5)
        obtain ⟨⟨z0, z1, z2, z3, z4⟩, f0, f1, f2, f3, f4⟩ := blk5 (HR4.out.kept k5)
        have HR5 := Lib.hid (HR4.out.kept k5)
        clear hE k5
        go_wp2_with fail
        exact v_endO (r := vS (a.s ++ b.s)) HR.out (by rfl) rfl rfl HR5.out HK5.out
      · by_cases hE : 1000 < (a.s.size : Int) + b.s.size
        · have HR := Lib.hid (HO.out.trans (if_pos hE))
          have HK5 := Lib.hid (HK4.out.trans k5)
          clear hE k5 hv
          go_wp2_with fail
          exact ⟨rfl, .inr ⟨6, HR.out, rfl, HK5.out⟩⟩
        · rw [if_neg hE] at hv; cases hv
  · go_simp
    obtain ⟨X1, hX1⟩ : ∃ W, D.alloc (.cells vZ vT) = W := ⟨_, rfl⟩
    obtain ⟨x1, y1, z1⟩ := vnew hX1
    rw [hX1]
    refine hK.out _ _ (blk10 (HD.out.1.kept x1)) (fun hHeld1 => ?_)
    clear hK K
    (try simp only [Act.put, List.getElem_toArray, List.getElem_cons_zero, List.getElem_cons_succ, List.setIfInBounds_toArray, List.set_cons_zero, List.set_cons_succ])
    refine wpAnyT_ready (rs := [6]) (by kernel_rfl) (by simp) ?_
    refine AllReadyT.cons rfl (fun K hK => ?_) AllReadyT.nil
    go_simp
    obtain ⟨X2, hX2⟩ : ∃ W, X1.alloc (.cells vZ vT) = W := ⟨_, rfl⟩
    obtain ⟨x2, y2, z2⟩ := vnew hX2
    rw [hX2]
    rw [z1] at y2
    refine hK.out _ _ (blk10 (HD.out.1.kept (x1.trans x2))) (fun hHeld2 => ?_)
    clear hK K
    (try simp only [Act.put, List.getElem_toArray, List.getElem_cons_zero, List.getElem_cons_succ, List.setIfInBounds_toArray, List.set_cons_zero, List.set_cons_succ])
    have bP := y1.kept x2
    have bZ := HD.out.2.1.kept (x1.trans x2)
    have bG := HD.out.1.kept (x1.trans x2)
    have kZ := HD.out.2.2.trans (x1.trans x2)
    have HZZ := Lib.hid (show w.heap.size < D.heap.size from HD.out.2.1.lt)
    clear hHeld0 hHeld1 hX1 hX2 x1 x2 z1 z2
    obtain ⟨⟨p0, p1, p2, p3, p4⟩, q0, q1, q2, q3, q4⟩ := blk5 y2
    obtain ⟨X3, hX3⟩ : ∃ W, put5 X2 (D.heap.size + 1) (.int .i64 a.tag) (.int .i64 a.n) (.int .u64 (a.bits : Int)) (.string a.s) (.slice pa la ca) = W := ⟨_, rfl⟩
    have o3 : Only (· = D.heap.size + 1) X2 X3 := by rw [← hX3]; exact put5_only _ _ _ _ _ _ _
    have bA3 : Blk X3 (D.heap.size + 1) vT (five a pa la ca) := by rw [← hX3]; exact put5_blk y2 _ _ _ _ _
    have bB3 := bP.only o3 (by omega)
    have bG3 := bG.only o3 (by have := HZ.out; have := HZZ.out; omega)
    have HX3 := Lib.hid (show ((((X2.setCell ⟨D.heap.size + 1, 0, none⟩ (.int .i64 a.tag)).setCell ⟨D.heap.size + 1, 1, none⟩ (.int .i64 a.n)).setCell ⟨D.heap.size + 1, 2, none⟩ (.int .u64 (a.bits : Int))).setCell ⟨D.heap.size + 1, 3, none⟩ (.string a.s)).setCell ⟨D.heap.size + 1, 4, none⟩ (.slice pa la ca) = X3 from hX3)
    obtain ⟨W4, hW4⟩ : ∃ W, put5 X3 (D.heap.size) (.int .i64 b.tag) (.int .i64 b.n) (.int .u64 (b.bits : Int)) (.string b.s) (.slice pb lb cb) = W := ⟨_, rfl⟩
    have o4 : Only (· = D.heap.size) X3 W4 := by rw [← hW4]; exact put5_only _ _ _ _ _ _ _
    have bB : Blk W4 (D.heap.size) vT (five b pb lb cb) := by rw [← hW4]; exact put5_blk bB3 _ _ _ _ _
    have bA := bA3.only o4 (by omega)
    have bR := (bZ.only o3 (by have := HZZ.out; omega)).only o4 (by have := HZZ.out; omega)
    have kR : Kept w W4 := (kZ.only o3 rfl (fun k e => by have := HZZ.out; omega)).only o4 rfl (fun k e => by have := HZZ.out; omega)
    have HW4 := Lib.hid (show ((((X3.setCell ⟨D.heap.size, 0, none⟩ (.int .i64 b.tag)).setCell ⟨D.heap.size, 1, none⟩ (.int .i64 b.n)).setCell ⟨D.heap.size, 2, none⟩ (.int .u64 (b.bits : Int))).setCell ⟨D.heap.size, 3, none⟩ (.string b.s)).setCell ⟨D.heap.size, 4, none⟩ (.slice pb lb cb) = W4 from hW4)
    clear hX3 hW4 o3 o4 bA3 bG bP y1 y2 bZ kZ
    refine wpAnyT_ready (rs := [8]) (by kernel_rfl) (by simp) ?_
    refine AllReadyT.cons rfl (fun K hK => ?_) AllReadyT.nil
    go_simp
    rw [HX3.out]
    refine hK.out _ _ (blk10 bG3) (fun hHeld3 => ?_)
    clear hK K
    (try simp only [Act.put, List.getElem_toArray, List.getElem_cons_zero, List.getElem_cons_succ, List.setIfInBounds_toArray, List.set_cons_zero, List.set_cons_succ])
    clear p0 p1 p2 p3 p4 q0 q1 q2 q3 q4 hHeld2
    obtain ⟨⟨p0, p1, p2, p3, p4⟩, q0, q1, q2, q3, q4⟩ := blk5 bB3
    refine wpAnyT_ready (rs := [9]) (by kernel_rfl) (by simp) ?_
    refine AllReadyT.fin rfl (fun K hK => ?_)
    go_simp
    rw [HW4.out]
    refine hK.out _ _ ?_
    clear hK K
    (try simp only [Act.put, List.getElem_toArray, List.getElem_cons_zero, List.getElem_cons_succ, List.setIfInBounds_toArray, List.set_cons_zero, List.set_cons_succ])
    refine wpAnyT_done (by kernel_rfl) ?_ _
    clear hHeld3 bG3 bB3 p0 p1 p2 p3 p4 q0 q1 q2 q3 q4
    have HA4 := Lib.hid (show Blk W4 (D.heap.size + 1) vT (five a pa la ca) from bA)
    have HB4 := Lib.hid (show Blk W4 (D.heap.size) vT (five b pb lb cb) from bB)
    have HR4 := Lib.hid bR
    have HK4 := Lib.hid kR
    obtain ⟨⟨x0, x1, x2, x3, x4⟩, _⟩ := blk5 bA
    obtain ⟨⟨y0, y1, y2, y3, y4⟩, _⟩ := blk5 bB
    clear bA bB bR kR
    by_cases h1 : a.tag = 1
    · have HO := Lib.hid (show calcO op a b = if doE op.data.toList b.n = 3 then .trap 2 else .val (vI (doV op.data.toList a.n b.n)) from if_pos h1)
      have c1 : (a.tag == 1) = true := by rw [h1]; rfl
      have HC := Lib.hid (calI_c op a.n b.n (by have := HSZ.out.1; unfold maxLen; omega) W4)
      clear h1
      go_wp2_with fail
      refine HC.out.mono ?_
      rintro e w5 (⟨v, hv, rfl, k5⟩ | ⟨hv, rfl, k5⟩)
      · by_cases hE : doE op.data.toList b.n = 3
        · rw [if_pos hE] at hv; cases hv
        rw [if_neg hE] at hv
        cases hv
        have HR := Lib.hid (HO.out.trans (if_neg hE))
        have HR5 := Lib.hid (HR4.out.kept k5)
        have HK5 := Lib.hid (HK4.out.trans k5)
        clear hE k5
        go_wp2_with fail
        refine (vint_c _ _).mono ?_
        rintro e w6 ⟨rfl, k6⟩
        obtain ⟨⟨z0, z1, z2, z3, z4⟩, f0, f1, f2, f3, f4⟩ := blk5 (HR5.out.kept k6)
        have HR6 := Lib.hid (HR5.out.kept k6)
        have HK6 := Lib.hid (HK5.out.trans k6)
        clear k6
        go_wp2_with fail
        exact v_endO (r := vI (doV op.data.toList a.n b.n)) HR.out (by rfl) rfl rfl HR6.out HK6.out
      · by_cases hE : doE op.data.toList b.n = 3
        · have HR := Lib.hid (HO.out.trans (if_pos hE))
          have HK5 := Lib.hid (HK4.out.trans k5)
          clear hE k5 hv
          go_wp2_with fail
          exact ⟨rfl, .inr ⟨2, HR.out, rfl, HK5.out⟩⟩
        · rw [if_neg hE] at hv; cases hv
    by_cases h2 : a.tag = 2
    · have HO := Lib.hid (show calcO op a b = .val (vR (rdo op a.bits b.bits)) from (if_neg h1).trans (if_pos h2))
      have c1 : (a.tag == 1) = false := by rw [h2]; rfl
      have c2 : (a.tag == 2) = true := by rw [h2]; rfl
      have HC := Lib.hid (calU_c op a.bits b.bits W4)
      clear h1 h2
      go_wp2_with fail
      refine HC.out.mono ?_
      rintro e w5 ⟨rfl, k5⟩
      have HR5 := Lib.hid (HR4.out.kept k5)
      have HK5 := Lib.hid (HK4.out.trans k5)
      clear k5
      go_wp2_with fail
      refine (vreal_c _ _).mono ?_
      rintro e w6 ⟨rfl, k6⟩
      obtain ⟨⟨z0, z1, z2, z3, z4⟩, f0, f1, f2, f3, f4⟩ := blk5 (HR5.out.kept k6)
      have HR6 := Lib.hid (HR5.out.kept k6)
      have HK6 := Lib.hid (HK5.out.trans k6)
      clear k6
      go_wp2_with fail
      exact v_endO (r := vR (rdo op a.bits b.bits)) HO.out (by rfl) rfl rfl HR6.out HK6.out
    · have HO := Lib.hid (show calcO op a b = if 1000 < (a.s.size : Int) + b.s.size then .trap 6 else .val (vS (a.s ++ b.s)) from (if_neg h1).trans (if_neg h2))
      have c1 : (a.tag == 1) = false := by simpa using h1
      have c2 : (a.tag == 2) = false := by simpa using h2
      have HC := Lib.hid (calT_c op a.s b.s HSZ.out.2.1 HSZ.out.2.2 W4)
      clear h1 h2
      go_wp2_with fail
      refine HC.out.mono ?_
      rintro e w5 (⟨v, hv, rfl, k5⟩ | ⟨hv, rfl, k5⟩)
      · by_cases hE : 1000 < (a.s.size : Int) + b.s.size
        · rw [if_pos hE] at hv; cases hv
        rw [if_neg hE] at hv
        cases hv
        have HR := Lib.hid (HO.out.trans (if_neg hE))
        have HK5 := Lib.hid (HK4.out.trans k5)
        obtain ⟨⟨z0, z1, z2, z3, z4⟩, f0, f1, f2, f3, f4⟩ := blk5 (HR4.out.kept k5)
        have HR5 := Lib.hid (HR4.out.kept k5)
        clear hE k5
        go_wp2_with fail
        exact v_endO (r := vS (a.s ++ b.s)) HR.out (by rfl) rfl rfl HR5.out HK5.out
      · by_cases hE : 1000 < (a.s.size : Int) + b.s.size
        · have HR := Lib.hid (HO.out.trans (if_pos hE))
          have HK5 := Lib.hid (HK4.out.trans k5)
          clear hE k5 hv
          go_wp2_with fail
          exact ⟨rfl, .inr ⟨6, HR.out, rfl, HK5.out⟩⟩
        · rw [if_neg hE] at hv; cases hv

end Go.Proofs.YtcaailiijmjdlaaGreatDoor
