/- Change: what an operation makes of a value. -/
import Derived.Test.YtcaailiijmjdlaaGreatDoorZvf
import Derived.Deep.Cut
set_option linter.unusedSimpArgs false
set_option linter.unusedVariables false
set_option maxRecDepth 100000

namespace Go.Proofs.YtcaailiijmjdlaaGreatDoor

open Go.ChangeShapes Go.WideShapes Go.ChangeAt Go.RowKit Flo

attribute [local go_sem] Oper.semAt_some

open Zp (V R Out K DK e0 binD unD convD)

set_option maxHeartbeats 8000000 in
theorem zchange_c (op : ByteArray) (ho : op.size ≤ 1000000) (a : V) (ha : V.okM a) (pa : Option Addr) (la ca : Nat) (w : World) (hT : Tb w) :
    Calls Tryz.prog 23 #[.string op, a.v (.slice pa la ca)] w fun e w' => e = .returned ((doUV (convD op) op a).val) ∧ Kept w w' := by
  obtain ⟨dv, hdv⟩ : ∃ dv, doUV (convD op) op a = dv := ⟨_, rfl⟩
  rw [hdv]
  obtain ⟨W1, hW1⟩ : ∃ W, w.alloc (.cells #[.int .i64 a.tag, .int .i64 a.n, .int .u64 (a.bits : Int), .string a.s, .slice pa la ca] vT) = W := ⟨_, rfl⟩
  obtain ⟨k1, b1, z1⟩ := vnew hW1
  obtain ⟨W3, hW3⟩ : ∃ W, W1.alloc (.cells vZ vT) = W := ⟨_, rfl⟩
  obtain ⟨k3, b3, z3⟩ := vnew hW3
  obtain ⟨D, hD⟩ : ∃ D, W3.drew = D := ⟨_, rfl⟩
  have HA := Lib.hid (show Blk D w.heap.size vT (five a pa la ca) by rw [← hD]; exact (b1.kept k3).drew)
  have HR := Lib.hid (show Blk D (w.heap.size + 1) vT vZ by rw [← hD, ← z1]; exact b3.drew)
  have HK := Lib.hid (show Kept w D by rw [← hD]; exact (k1.trans k3).drew)
  have HO := Lib.hid (And.intro ho ha)
  have HW1 := Lib.hid hW1
  have HW3 := Lib.hid hW3
  have HDV := Lib.hid hdv
  have HT := Lib.hid hT
  clear hW1 hW3 b1 b3 k1 k3 z3 ho ha hdv hT
  go_enter Tryz.func23, Tryz.ntmps23
  go_wp2_with (first | rw [HW1.out] | rw [z1] | rw [HW3.out])
  refine wp_region_till (S := (fun W => W.cell? ⟨w.heap.size, 0, none⟩ = some (.int .i64 a.tag) ∧ W.cell? ⟨w.heap.size, 1, none⟩ = some (.int .i64 a.n) ∧ W.cell? ⟨w.heap.size, 2, none⟩ = some (.int .u64 (a.bits : Int)) ∧ W.cell? ⟨w.heap.size, 3, none⟩ = some (.string a.s) ∧ W.cell? ⟨w.heap.size, 4, none⟩ = some (.slice pa la ca))) 10 (by kernel_rfl) (by rw [hD]; exact blkF (HA.out.kept (Kept.refl _))) (fun hHeld0 => ?_)
  rw [hD] at hHeld0 ⊢
  clear hD
  have kq : Kept D D := Kept.refl _
  refine wpAnyT_take (i := 1) (v := ?_) rfl (by kernel_rfl) (by kernel_rfl) (by kernel_rfl) (fun _ _ _ h => h) (Or.inl ⟨by kernel_rfl, ?_⟩) (by assumption) ?_
  rotate_left
  · intro w hSw; (try dsimp only at hSw); go_simp; (try with_reducible rfl)
  (try simp only [Act.put, List.getElem_toArray, List.getElem_cons_zero, List.getElem_cons_succ, List.setIfInBounds_toArray, List.set_cons_zero, List.set_cons_succ])
  refine wpAnyT_take (i := 2) (v := ?_) rfl (by kernel_rfl) (by kernel_rfl) (by kernel_rfl) (fun _ _ _ h => h) (Or.inl ⟨by kernel_rfl, ?_⟩) (by assumption) ?_
  rotate_left
  · intro w hSw; (try dsimp only at hSw); go_simp; (try with_reducible rfl)
  (try simp only [Act.put, List.getElem_toArray, List.getElem_cons_zero, List.getElem_cons_succ, List.setIfInBounds_toArray, List.set_cons_zero, List.set_cons_succ])
  refine wpAnyT_ready (rs := [0,3]) (by kernel_rfl) (by simp) ?_
  refine AllReadyT.cons rfl (fun K hK => ?_) (AllReadyT.cons rfl (fun K hK => ?_) AllReadyT.nil)
  · go_simp
    refine (zconv_map D).mono ?_
    rintro e x1 ⟨rfl, hM, kn⟩
    replace kq := kq.trans kn
    clear kn
    refine hK.out _ _ (blkF (HA.out.kept kq)) (fun hHeld1 => ?_)
    clear hK K
    (try simp only [Act.put, List.getElem_toArray, List.getElem_cons_zero, List.getElem_cons_succ, List.setIfInBounds_toArray, List.set_cons_zero, List.set_cons_succ])
    refine wpAnyT_ready (rs := [3]) (by kernel_rfl) (by simp) ?_
    refine AllReadyT.cons rfl (fun K hK => ?_) AllReadyT.nil
    go_simp
    obtain ⟨x2, hnx⟩ : ∃ W, x1.alloc (.cells #[.int .i64 a.tag, .int .i64 a.n, .int .u64 (a.bits : Int), .string a.s, .slice pa la ca] vT) = W := ⟨_, rfl⟩
    have hS : Blk x2 x1.heap.size vT (five a pa la ca) := (vnew hnx).2.1
    have kn := (vnew hnx).1
    rw [hnx]
    clear hnx
    replace hM := hM.only (S := fun _ => False) (Only.of_kept kn) (fun h => h)
    replace kq := kq.trans kn
    clear kn
    refine hK.out _ _ (blkF (HA.out.kept kq)) (fun hHeld2 => ?_)
    clear hK K
    (try simp only [Act.put, List.getElem_toArray, List.getElem_cons_zero, List.getElem_cons_succ, List.setIfInBounds_toArray, List.set_cons_zero, List.set_cons_succ])
    refine wpAnyT_ready (rs := [4]) (by kernel_rfl) (by simp) ?_
    refine AllReadyT.cons rfl (fun K hK => ?_) AllReadyT.nil
    go_simp
    refine (zdo_conv op HO.out.1 a HO.out.2 pa la ca _ _ _ _ x2 hS (HT.out.kept (HK.out.trans kq)) hM).mono ?_
    rintro e x3 ⟨rfl, kn⟩
    rw [HDV.out]
    replace hM := hM.only (S := fun _ => False) (Only.of_kept kn) (fun h => h)
    replace hS := hS.kept kn
    replace kq := kq.trans kn
    clear kn
    refine hK.out _ _ (blkF (HA.out.kept kq)) (fun hHeld3 => ?_)
    clear hK K
    (try simp only [Act.put, List.getElem_toArray, List.getElem_cons_zero, List.getElem_cons_succ, List.setIfInBounds_toArray, List.set_cons_zero, List.set_cons_succ])
    refine wpAnyT_take (i := 5) (v := ?_) rfl (by kernel_rfl) (by kernel_rfl) (by kernel_rfl) (fun _ _ _ h => h) (Or.inl ⟨by kernel_rfl, ?_⟩) (by assumption) ?_
    rotate_left
    · intro w hSw; (try dsimp only at hSw); go_simp; (try with_reducible rfl)
    (try simp only [Act.put, List.getElem_toArray, List.getElem_cons_zero, List.getElem_cons_succ, List.setIfInBounds_toArray, List.set_cons_zero, List.set_cons_succ])
    refine wpAnyT_take (i := 6) (v := ?_) rfl (by kernel_rfl) (by kernel_rfl) (by kernel_rfl) (fun _ _ _ h => h) (Or.inl ⟨by kernel_rfl, ?_⟩) (by assumption) ?_
    rotate_left
    · intro w hSw; (try dsimp only at hSw); go_simp; (try with_reducible rfl)
    (try simp only [Act.put, List.getElem_toArray, List.getElem_cons_zero, List.getElem_cons_succ, List.setIfInBounds_toArray, List.set_cons_zero, List.set_cons_succ])
    refine wpAnyT_take (i := 7) (v := ?_) rfl (by kernel_rfl) (by kernel_rfl) (by kernel_rfl) (fun _ _ _ h => h) (Or.inl ⟨by kernel_rfl, ?_⟩) (by assumption) ?_
    rotate_left
    · intro w hSw; (try dsimp only at hSw); go_simp; (try with_reducible rfl)
    (try simp only [Act.put, List.getElem_toArray, List.getElem_cons_zero, List.getElem_cons_succ, List.setIfInBounds_toArray, List.set_cons_zero, List.set_cons_succ])
    have hR := HR.out.kept kq
    obtain ⟨⟨c0, c1, c2, c3, c4⟩, d0, d1, d2, d3, d4⟩ := blk5 hR
    obtain ⟨V9, hV9⟩ : ∃ W, put5 x3 (w.heap.size + 1) (.int .i64 dv.v.tag) (.int .i64 dv.v.n) (.int .u64 (dv.v.bits : Int)) (.string dv.v.s) (.slice none 0 0) = W := ⟨_, rfl⟩
    have o9 : Only (· = w.heap.size + 1) x3 V9 := by rw [← hV9]; exact put5_only _ _ _ _ _ _ _
    have HV := Lib.hid (show Blk V9 (w.heap.size + 1) vT (five dv.v none 0 0) by rw [← hV9]; exact put5_blk hR _ _ _ _ _)
    have HVA := Lib.hid ((HA.out.kept kq).only o9 (by omega))
    have HKV := Lib.hid (show Kept w V9 from (HK.out.trans kq).only o9 rfl (fun k e => by omega))
    have HWV := Lib.hid (show ((((x3.setCell ⟨w.heap.size + 1, 0, none⟩ (.int .i64 dv.v.tag)).setCell ⟨w.heap.size + 1, 1, none⟩ (.int .i64 dv.v.n)).setCell ⟨w.heap.size + 1, 2, none⟩ (.int .u64 (dv.v.bits : Int))).setCell ⟨w.heap.size + 1, 3, none⟩ (.string dv.v.s)).setCell ⟨w.heap.size + 1, 4, none⟩ (.slice none 0 0) = V9 from hV9)
    clear hV9 o9 hR kq
    refine wpAnyT_ready (rs := [8]) (by kernel_rfl) (by simp) ?_
    refine AllReadyT.cons rfl (fun K hK => ?_) AllReadyT.nil
    go_simp
    rw [HWV.out]
    refine hK.out _ _ (blkF HVA.out) (fun hHeld9 => ?_)
    clear hK K
    (try simp only [Act.put, List.getElem_toArray, List.getElem_cons_zero, List.getElem_cons_succ, List.setIfInBounds_toArray, List.set_cons_zero, List.set_cons_succ])
    refine wpAnyT_take (i := 9) (v := ?_) rfl (by kernel_rfl) (by kernel_rfl) (by kernel_rfl) (fun _ _ _ h => h) (Or.inl ⟨by kernel_rfl, ?_⟩) (by assumption) ?_
    rotate_left
    · intro w hSw; (try dsimp only at hSw); go_simp; (try with_reducible rfl)
    (try simp only [Act.put, List.getElem_toArray, List.getElem_cons_zero, List.getElem_cons_succ, List.setIfInBounds_toArray, List.set_cons_zero, List.set_cons_succ])
    refine wpAnyT_ready (rs := [10]) (by kernel_rfl) (by simp) ?_
    refine AllReadyT.fin rfl (fun K hK => ?_)
    go_simp
    refine hK.out _ _ ?_
    clear hK K
    (try simp only [Act.put, List.getElem_toArray, List.getElem_cons_zero, List.getElem_cons_succ, List.setIfInBounds_toArray, List.set_cons_zero, List.set_cons_succ])
    refine wpAnyT_done (by kernel_rfl) ?_ _
    clear hHeld9
    go_wp2_with fail
    exact bodyPost_ret (v_results3 (by rfl) _ _ rfl rfl rfl HV.out) rfl ⟨rfl, HKV.out⟩
  · go_simp
    obtain ⟨x1, hnx⟩ : ∃ W, D.alloc (.cells #[.int .i64 a.tag, .int .i64 a.n, .int .u64 (a.bits : Int), .string a.s, .slice pa la ca] vT) = W := ⟨_, rfl⟩
    have hS : Blk x1 D.heap.size vT (five a pa la ca) := (vnew hnx).2.1
    have kn := (vnew hnx).1
    rw [hnx]
    clear hnx
    replace kq := kq.trans kn
    clear kn
    refine hK.out _ _ (blkF (HA.out.kept kq)) (fun hHeld1 => ?_)
    clear hK K
    (try simp only [Act.put, List.getElem_toArray, List.getElem_cons_zero, List.getElem_cons_succ, List.setIfInBounds_toArray, List.set_cons_zero, List.set_cons_succ])
    refine wpAnyT_ready (rs := [0]) (by kernel_rfl) (by simp) ?_
    refine AllReadyT.cons rfl (fun K hK => ?_) AllReadyT.nil
    go_simp
    refine (zconv_map x1).mono ?_
    rintro e x2 ⟨rfl, hM, kn⟩
    replace hS := hS.kept kn
    replace kq := kq.trans kn
    clear kn
    refine hK.out _ _ (blkF (HA.out.kept kq)) (fun hHeld2 => ?_)
    clear hK K
    (try simp only [Act.put, List.getElem_toArray, List.getElem_cons_zero, List.getElem_cons_succ, List.setIfInBounds_toArray, List.set_cons_zero, List.set_cons_succ])
    refine wpAnyT_ready (rs := [4]) (by kernel_rfl) (by simp) ?_
    refine AllReadyT.cons rfl (fun K hK => ?_) AllReadyT.nil
    go_simp
    refine (zdo_conv op HO.out.1 a HO.out.2 pa la ca _ _ _ _ x2 hS (HT.out.kept (HK.out.trans kq)) hM).mono ?_
    rintro e x3 ⟨rfl, kn⟩
    rw [HDV.out]
    replace hM := hM.only (S := fun _ => False) (Only.of_kept kn) (fun h => h)
    replace hS := hS.kept kn
    replace kq := kq.trans kn
    clear kn
    refine hK.out _ _ (blkF (HA.out.kept kq)) (fun hHeld3 => ?_)
    clear hK K
    (try simp only [Act.put, List.getElem_toArray, List.getElem_cons_zero, List.getElem_cons_succ, List.setIfInBounds_toArray, List.set_cons_zero, List.set_cons_succ])
    refine wpAnyT_take (i := 5) (v := ?_) rfl (by kernel_rfl) (by kernel_rfl) (by kernel_rfl) (fun _ _ _ h => h) (Or.inl ⟨by kernel_rfl, ?_⟩) (by assumption) ?_
    rotate_left
    · intro w hSw; (try dsimp only at hSw); go_simp; (try with_reducible rfl)
    (try simp only [Act.put, List.getElem_toArray, List.getElem_cons_zero, List.getElem_cons_succ, List.setIfInBounds_toArray, List.set_cons_zero, List.set_cons_succ])
    refine wpAnyT_take (i := 6) (v := ?_) rfl (by kernel_rfl) (by kernel_rfl) (by kernel_rfl) (fun _ _ _ h => h) (Or.inl ⟨by kernel_rfl, ?_⟩) (by assumption) ?_
    rotate_left
    · intro w hSw; (try dsimp only at hSw); go_simp; (try with_reducible rfl)
    (try simp only [Act.put, List.getElem_toArray, List.getElem_cons_zero, List.getElem_cons_succ, List.setIfInBounds_toArray, List.set_cons_zero, List.set_cons_succ])
    refine wpAnyT_take (i := 7) (v := ?_) rfl (by kernel_rfl) (by kernel_rfl) (by kernel_rfl) (fun _ _ _ h => h) (Or.inl ⟨by kernel_rfl, ?_⟩) (by assumption) ?_
    rotate_left
    · intro w hSw; (try dsimp only at hSw); go_simp; (try with_reducible rfl)
    (try simp only [Act.put, List.getElem_toArray, List.getElem_cons_zero, List.getElem_cons_succ, List.setIfInBounds_toArray, List.set_cons_zero, List.set_cons_succ])
    have hR := HR.out.kept kq
    obtain ⟨⟨c0, c1, c2, c3, c4⟩, d0, d1, d2, d3, d4⟩ := blk5 hR
    obtain ⟨V9, hV9⟩ : ∃ W, put5 x3 (w.heap.size + 1) (.int .i64 dv.v.tag) (.int .i64 dv.v.n) (.int .u64 (dv.v.bits : Int)) (.string dv.v.s) (.slice none 0 0) = W := ⟨_, rfl⟩
    have o9 : Only (· = w.heap.size + 1) x3 V9 := by rw [← hV9]; exact put5_only _ _ _ _ _ _ _
    have HV := Lib.hid (show Blk V9 (w.heap.size + 1) vT (five dv.v none 0 0) by rw [← hV9]; exact put5_blk hR _ _ _ _ _)
    have HVA := Lib.hid ((HA.out.kept kq).only o9 (by omega))
    have HKV := Lib.hid (show Kept w V9 from (HK.out.trans kq).only o9 rfl (fun k e => by omega))
    have HWV := Lib.hid (show ((((x3.setCell ⟨w.heap.size + 1, 0, none⟩ (.int .i64 dv.v.tag)).setCell ⟨w.heap.size + 1, 1, none⟩ (.int .i64 dv.v.n)).setCell ⟨w.heap.size + 1, 2, none⟩ (.int .u64 (dv.v.bits : Int))).setCell ⟨w.heap.size + 1, 3, none⟩ (.string dv.v.s)).setCell ⟨w.heap.size + 1, 4, none⟩ (.slice none 0 0) = V9 from hV9)
    clear hV9 o9 hR kq
    refine wpAnyT_ready (rs := [8]) (by kernel_rfl) (by simp) ?_
    refine AllReadyT.cons rfl (fun K hK => ?_) AllReadyT.nil
    go_simp
    rw [HWV.out]
    refine hK.out _ _ (blkF HVA.out) (fun hHeld9 => ?_)
    clear hK K
    (try simp only [Act.put, List.getElem_toArray, List.getElem_cons_zero, List.getElem_cons_succ, List.setIfInBounds_toArray, List.set_cons_zero, List.set_cons_succ])
    refine wpAnyT_take (i := 9) (v := ?_) rfl (by kernel_rfl) (by kernel_rfl) (by kernel_rfl) (fun _ _ _ h => h) (Or.inl ⟨by kernel_rfl, ?_⟩) (by assumption) ?_
    rotate_left
    · intro w hSw; (try dsimp only at hSw); go_simp; (try with_reducible rfl)
    (try simp only [Act.put, List.getElem_toArray, List.getElem_cons_zero, List.getElem_cons_succ, List.setIfInBounds_toArray, List.set_cons_zero, List.set_cons_succ])
    refine wpAnyT_ready (rs := [10]) (by kernel_rfl) (by simp) ?_
    refine AllReadyT.fin rfl (fun K hK => ?_)
    go_simp
    refine hK.out _ _ ?_
    clear hK K
    (try simp only [Act.put, List.getElem_toArray, List.getElem_cons_zero, List.getElem_cons_succ, List.setIfInBounds_toArray, List.set_cons_zero, List.set_cons_succ])
    refine wpAnyT_done (by kernel_rfl) ?_ _
    clear hHeld9
    go_wp2_with fail
    exact bodyPost_ret (v_results3 (by rfl) _ _ rfl rfl rfl HV.out) rfl ⟨rfl, HKV.out⟩

end Go.Proofs.YtcaailiijmjdlaaGreatDoor
