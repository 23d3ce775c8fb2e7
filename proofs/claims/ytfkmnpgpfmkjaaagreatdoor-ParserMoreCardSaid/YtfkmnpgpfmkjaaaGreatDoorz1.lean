/- The contracts of the parser's parts with loops that append to a node of their own: written by wip/tools/genps.py. -/
import Derived.Test.YtfkmnpgpfmkjaaaGreatDoorz0
import Derived.StringKeys
import Derived.RangeFuncNested
import Derived.RangeFuncBound
import Derived.RangeFuncCalls
import Derived.RangeFuncLeaves
import Derived.RangeFuncBox
import Derived.Shelf.Abstract
import Derived.Shelf.RegionOpen
import Derived.WalkKit
import Derived.OwnWalkIn
import Derived.TacticsInMore
import Derived.LoopNIn
import Derived.LoopIn
import Derived.Maps.AppendAt
import Derived.WalkLawsBesides
import Derived.Laws.Rows
import Derived.Laws.EntriesVeiled
set_option linter.unusedSimpArgs false
set_option linter.unusedVariables false
set_option maxRecDepth 100000
namespace Go.Proofs.YtfkmnpgpfmkjaaaGreatDoor
open Go.ChangeShapes Go.WideShapes Go.ChangeAt Go.RowKit
attribute [local go_sem] Oper.semAt_some
open Ps (O W)

section
variable {p : PP} {F : Ps.Fam} {k : Nat}
set_option maxHeartbeats 1000000 in
theorem pmethod_c (hF : FamC p F k) (l : List Lx.T) (w : World) (hk : l.length ≤ k + 1) (hp : Pst p l w) : Calls Tryz.prog 78 #[.pointer (some ⟨p.B, 0, none⟩)] w (NodePost p l (Ps.method F l) w) := by
  obtain ⟨W0, hW0⟩ : ∃ W0, w.alloc (.cells pzN nT) = W0 := ⟨_, rfl⟩
  have k0 : Kept w W0 := by rw [← hW0]; exact (Kept.refl w).alloc _
  have HZ0 := Lib.hid (show w.heap.size + 1 ≤ W0.heap.size by rw [← hW0]; simp)
  have HB0 := Lib.hid (show Blk W0 w.heap.size nT pzN by rw [← hW0]; exact Blk.new _ _ _)
  have HP0 := Lib.hid (hp.kept k0)
  have HN := Lib.hid hp.lt
  have HO0 := Lib.hid (show Only (· = p.B) w W0 from Only.of_kept k0)
  have HW0 := Lib.hid hW0
  have HKL := Lib.hid hk
  clear hp k0 hW0 hk
  have hf1 := field_tok1
  have hf2 := field_tok2
  go_enter Tryz.func78, Tryz.ntmps78
  go_wp2_with (rw [HW0.out])
  refine (take_l [⟨#[100, 101, 102]⟩] (ty := 9) HP0.out (by first | rfl | simp) rfl rfl (by decide) (by decide +kernel)).mono ?_
  rintro e w1 (⟨t1, r1, h1, h2, rfl, h4, h5, h6⟩ | ⟨q, hb, rfl, ho⟩)
  rotate_left
  · have HH := Lib.hid (show Ps.method F l = .bad q ∧ Only (· = p.B) w w1 from ⟨by simp only [Ps.method, hb, Ps.O.bind_ok, Ps.O.bind_bad, eq_self, if_true, Bool.false_eq_true, if_false], HO0.out.trans ho⟩)
    clear hb ho
    go_wp2_with fail
    exact ⟨rfl, .inr ⟨_, HH.out.1, rfl, HH.out.2⟩⟩
  have HE1 := Lib.hid h1
  have HT1 := Lib.hid h6
  have HL1 := Lib.hid (show r1.length + 1 = (l).length by rw [h2]; rfl)
  have HP1 := Lib.hid h4
  have HO1 := Lib.hid (HO0.out.trans h5)
  have HZ1 := Lib.hid (Nat.le_trans HZ0.out (Only.size h5))
  have HB1 := Lib.hid (HB0.out.only h5 (by have := HN.out; omega))
  clear h1 h2 h4 h5 h6
  go_wp2_with fail
  refine (take_l [⟨#[97, 32, 110, 97, 109, 101]⟩] (ty := 9) HP1.out (by first | rfl | simp) rfl rfl (by decide) (by decide +kernel)).mono ?_
  rintro e w2 (⟨t2, r2, h1, h2, rfl, h4, h5, h6⟩ | ⟨q, hb, rfl, ho⟩)
  rotate_left
  · have HH := Lib.hid (show Ps.method F l = .bad q ∧ Only (· = p.B) w w2 from ⟨by simp only [Ps.method, HE1.out, hb, Ps.O.bind_ok, Ps.O.bind_bad, eq_self, if_true, Bool.false_eq_true, if_false], HO1.out.trans ho⟩)
    clear hb ho
    go_wp2_with fail
    exact ⟨rfl, .inr ⟨_, HH.out.1, rfl, HH.out.2⟩⟩
  have HE2 := Lib.hid h1
  have HT2 := Lib.hid h6
  have HL2 := Lib.hid (show r2.length + 1 = (r1).length by rw [h2]; rfl)
  have HP2 := Lib.hid h4
  have HO2 := Lib.hid (HO1.out.trans h5)
  have HZ2 := Lib.hid (Nat.le_trans HZ1.out (Only.size h5))
  have HB2 := Lib.hid (HB1.out.only h5 (by have := HN.out; omega))
  clear h1 h2 h4 h5 h6
  go_wp2_with fail
  refine (list_c (k := k) 102 (enters_of Tryz.func102 (by kernel_rfl) rfl) Ps.param (fun l w _ hp => param_c l w hp) _ _ (by have := HKL.out; have := HL1.out; have := HL2.out; omega) HP2.out).mono ?_
  rintro e w3 (⟨ks3, r3, v3, h1, rfl, hk, h4, h5, h7⟩ | ⟨q, hb, rfl, ho⟩)
  rotate_left
  · have HH := Lib.hid (show Ps.method F l = .bad q ∧ Only (· = p.B) w w3 from ⟨by simp only [Ps.method, HE1.out, HE2.out, hb, Ps.O.bind_ok, Ps.O.bind_bad, eq_self, if_true, Bool.false_eq_true, if_false], HO2.out.trans ho⟩)
    clear hb ho
    go_wp2_with fail
    exact ⟨rfl, .inr ⟨_, HH.out.1, rfl, HH.out.2⟩⟩
  have HE3 := Lib.hid h1
  have HL3 := Lib.hid h7
  have HKx3a3 := Lib.hid (hk.lower HZ2.out)
  obtain ⟨va3, vc3, rfl⟩ := hk.slice
  have HP3 := Lib.hid h4
  have HO3 := Lib.hid (HO2.out.trans h5)
  have HZ3 := Lib.hid (Nat.le_trans HZ2.out (Only.size h5))
  have HB3 := Lib.hid (HB2.out.only h5 (by have := HN.out; omega))
  clear h1 hk h4 h5 h7
  obtain ⟨V3, hV3⟩ : ∃ V, w3.alloc (.cells (ndA (Ps.nd 4 t2.text Ps.e0 0 []) (.slice va3 ks3.length vc3)) nT) = V := ⟨_, rfl⟩
  have AI3 := Lib.hid (AppI.new (x := Ps.nd 4 t2.text Ps.e0 0 []) HKx3a3.out HB3.out HN.out HP3.out HO3.out rfl hV3)
  have HV3 := Lib.hid (show w3.alloc (.cells #[.int .i64 4, .string t2.text, .string Ps.e0, .string Ps.e0, .int .i64 0, (.slice va3 ks3.length vc3)] nT) = V3 from hV3)
  clear hV3
  go_wp2_with (rw [HV3.out])
  refine (annot_c _ _ AI3.out.pst).mono ?_
  rintro e w4 (⟨yy4, r4, h1, rfl, h4, h5, h6, h7⟩ | ⟨q, hb, rfl, ho⟩)
  rotate_left
  · have HH := Lib.hid (show Ps.method F l = .bad q ∧ Only (· = p.B) w w4 from ⟨by simp only [Ps.method, HE1.out, HE2.out, HE3.out, hb, Ps.O.bind_ok, Ps.O.bind_bad, eq_self, if_true, Bool.false_eq_true, if_false], AI3.out.only.trans ho⟩)
    clear hb ho
    go_wp2_with fail
    exact ⟨rfl, .inr ⟨_, HH.out.1, rfl, HH.out.2⟩⟩
  have HE4 := Lib.hid h1
  have HT4 := Lib.hid h6
  have HL4 := Lib.hid h7
  have AI4 := Lib.hid (AI3.out.call h5 h4)
  clear h1 h4 h5 h6 h7
  obtain ⟨V4, hV4⟩ : ∃ V, w4.setCell ⟨w3.heap.size, 2, none⟩ (.string yy4) = V := ⟨_, rfl⟩
  have AI5 := Lib.hid (AI4.out.setTyp (x' := Ps.nd 4 t2.text yy4 0 []) ⟨rfl, rfl, rfl, rfl⟩)
  rw [show w4.setCell ⟨w3.heap.size, 2, none⟩ (.string (Ps.nd 4 t2.text yy4 0 []).typ) = V4 from hV4] at AI5
  have HV4 := Lib.hid hV4
  clear hV4
  have HM := Lib.hid (show ks3.length + 1 ≤ 60000 by have := map_fst_len ks3; have := HL3.out; have := HP2.out.len; omega)
  obtain ⟨⟨z0, z1, z2, z3, z4, z5⟩, g0, g1, g2, g3, g4, g5⟩ := nd_six AI4.out.box
  go_wp2_with (rw [HV4.out])
  clear z0 z1 z2 z3 z4 z5 g0 g1 g2 g3 g4 g5
  refine wp_region_till (S := (fun W => W.cell? ⟨w3.heap.size, 5, none⟩ = some (.slice va3 ks3.length vc3))) 7 (by kernel_rfl) (AI5.out.drew.cell5) (fun hHeld0 => ?_)
  refine wpAnyT_take (i := 0) (v := ?_) rfl (by kernel_rfl) (by kernel_rfl) (by kernel_rfl) (fun _ _ _ h => h) (Or.inl ⟨by kernel_rfl, ?_⟩) (by assumption) ?_
  rotate_left
  · intro w hSw; (try dsimp only at hSw); go_simp; (try with_reducible rfl)
  (try simp only [Act.put, List.getElem_toArray, List.getElem_cons_zero, List.getElem_cons_succ, List.setIfInBounds_toArray, List.set_cons_zero, List.set_cons_succ])
  refine wpAnyT_take (i := 1) (v := ?_) rfl (by kernel_rfl) (by kernel_rfl) (by kernel_rfl) (fun _ _ _ h => h) (Or.inl ⟨by kernel_rfl, ?_⟩) (by assumption) ?_
  rotate_left
  · intro w hSw; (try dsimp only at hSw); go_simp; (try with_reducible rfl)
  (try simp only [Act.put, List.getElem_toArray, List.getElem_cons_zero, List.getElem_cons_succ, List.setIfInBounds_toArray, List.set_cons_zero, List.set_cons_succ])
  refine wpAnyT_take (i := 2) (v := ?_) rfl (by kernel_rfl) (by kernel_rfl) (by kernel_rfl) (fun _ _ _ h => h) (Or.inl ⟨by kernel_rfl, ?_⟩) (by assumption) ?_
  rotate_left
  · intro w hSw; (try dsimp only at hSw); go_simp; (try with_reducible rfl)
  (try simp only [Act.put, List.getElem_toArray, List.getElem_cons_zero, List.getElem_cons_succ, List.setIfInBounds_toArray, List.set_cons_zero, List.set_cons_succ])
  refine wpAnyT_ready (rs := [3]) (by kernel_rfl) (by simp) ?_
  refine AllReadyT.cons rfl (fun K hK => ?_) AllReadyT.nil
  go_simp
  refine ((hF.block r4 _ (by have := HL1.out; have := HL2.out; have := HL3.out; have := HL4.out; have := HKL.out; omega) AI5.out.pst.drew)).mono ?_
  rintro e w6 (⟨x6, ks6, r6, v6, h1, rfl, hx, hk, h4, h5, hok, h7⟩ | ⟨q, hb, rfl, ho⟩)
  rotate_left
  · have HH := Lib.hid (show Ps.method F l = .bad q ∧ Only (· = p.B) w w6 from ⟨by simp only [Ps.method, HE1.out, HE2.out, HE3.out, HE4.out, hb, Ps.O.bind_ok, Ps.O.bind_bad, eq_self, if_true, Bool.false_eq_true, if_false], AI5.out.drew.only.trans ho⟩)
    clear hb ho
    exact ⟨rfl, .inr ⟨_, HH.out.1, rfl, HH.out.2⟩⟩
  have HE6 := Lib.hid h1
  have HX6 := Lib.hid (And.intro hx hok)
  have HL6 := Lib.hid h7
  obtain ⟨ai6, hs6, h26⟩ := AI5.out.drew.asks h5 h4 hx hk hok
  refine hK.out _ _ ((AI5.out.drew.call h5 h4).cell5) (fun hHeld1 => ?_)
  clear hK K
  (try simp only [Act.put, List.getElem_toArray, List.getElem_cons_zero, List.getElem_cons_succ, List.setIfInBounds_toArray, List.set_cons_zero, List.set_cons_succ])
  refine wpAnyT_ready (rs := [4]) (by kernel_rfl) (by simp) ?_
  refine AllReadyT.cons rfl (fun K hK => ?_) AllReadyT.nil
  go_simp
  refine hK.out _ _ ai6.cell5 (fun hHeld2 => ?_)
  clear hK K
  (try simp only [Act.put, List.getElem_toArray, List.getElem_cons_zero, List.getElem_cons_succ, List.setIfInBounds_toArray, List.set_cons_zero, List.set_cons_succ])
  have AJ6 := Lib.hid ai6
  have HS6 := Lib.hid hs6
  have H26 := Lib.hid h26
  clear ai6 hs6 h26 h1 hx hk h4 h5 hok h7 hHeld0 hHeld1
  refine wpAnyT_ready (rs := [5]) (by kernel_rfl) (by simp) ?_
  refine AllReadyT.cons rfl (fun K hK => ?_) AllReadyT.nil
  refine step_nd (k2 := [(x6, v6)]) (.tmp 18) (.tmp 21) rfl rfl rfl AJ6.out.row rfl HS6.out H26.out AJ6.out.size (by first | (simp; done) | (have := HM.out; simp; omega)) ?_
  intro ka6 kc6 wa6 hr ho hl
  obtain ⟨q0, q1, q2⟩ := AJ6.out.more hr ho hl
  refine hK.out _ _ q0 (fun hHeld3 => ?_)
  clear hK K
  (try simp only [Act.put, List.getElem_toArray, List.getElem_cons_zero, List.getElem_cons_succ, List.setIfInBounds_toArray, List.set_cons_zero, List.set_cons_succ])
  refine wpAnyT_take (i := 6) (v := ?_) rfl (by kernel_rfl) (by kernel_rfl) (by kernel_rfl) (fun _ _ _ h => h) (Or.inl ⟨by kernel_rfl, ?_⟩) (by assumption) ?_
  rotate_left
  · intro w hSw; (try dsimp only at hSw); go_simp; (try with_reducible rfl)
  (try simp only [Act.put, List.getElem_toArray, List.getElem_cons_zero, List.getElem_cons_succ, List.setIfInBounds_toArray, List.set_cons_zero, List.set_cons_succ])
  clear hr ho hl hHeld2 hHeld3
  refine wpAnyT_ready (rs := [7]) (by kernel_rfl) (by simp) ?_
  refine AllReadyT.fin rfl (fun K hK => ?_)
  go_simp
  refine hK.out _ _ ?_
  clear hK K
  (try simp only [Act.put, List.getElem_toArray, List.getElem_cons_zero, List.getElem_cons_succ, List.setIfInBounds_toArray, List.set_cons_zero, List.set_cons_succ])
  refine wpAnyT_done (by kernel_rfl) ?_ _
  have AI7 := Lib.hid q2
  obtain ⟨W7, hW7⟩ : ∃ W7, wa6.setCell ⟨w3.heap.size, 5, none⟩ (.slice ka6 (ks3.length + 1) kc6) = W7 := ⟨_, rfl⟩
  rw [show wa6.setCell ⟨w3.heap.size, 5, none⟩ (.slice ka6 (ks3.length + [(x6, v6)].length) kc6) = W7 from hW7] at AI7
  obtain ⟨⟨z0, z1, z2, z3, z4, z5⟩, _⟩ := nd_six AI7.out.box
  obtain ⟨⟨y0, y1, y2, y3, y4, y5⟩, f0, f1, f2, f3, f4, f5⟩ := nd_six AI7.out.res
  have HW7 := Lib.hid hW7
  clear hW7 q0 q1 q2
  rw [HW7.out]
  go_wp2_with fail
  refine AI7.out.end (y := Ps.nd 4 t2.text yy4 0 (ks3.map (·.1) ++ [x6])) (by rfl) rfl rfl ⟨rfl, rfl, rfl, rfl, rfl⟩ (by simp only [Ps.method, HE1.out, HE2.out, HE3.out, HE4.out, HE6.out, Ps.O.bind_ok, Ps.O.bind_bad, eq_self, if_true, Bool.false_eq_true, if_false]) (by rw [List.map_append]; rfl) (nd_ok1 _ _ _ _ _ (by decide) HT2.out.2.1 HT4.out (by decide)) ?_
  have := HL1.out; have := HL2.out; have := HL3.out; have := HL4.out; have := HL6.out
  rw [count_nd, countL_snoc]; omega

set_option maxHeartbeats 1000000 in
theorem pclass_c (hF : FamC p F k) (l : List Lx.T) (w : World) (hk : l.length ≤ k + 1) (hp : Pst p l w) : Calls Tryz.prog 38 #[.pointer (some ⟨p.B, 0, none⟩)] w (NodePost p l (Ps.class1 F l) w) := by
  obtain ⟨W0, hW0⟩ : ∃ W0, w.alloc (.cells pzN nT) = W0 := ⟨_, rfl⟩
  have k0 : Kept w W0 := by rw [← hW0]; exact (Kept.refl w).alloc _
  have HZ0 := Lib.hid (show w.heap.size + 1 ≤ W0.heap.size by rw [← hW0]; simp)
  have HB0 := Lib.hid (show Blk W0 w.heap.size nT pzN by rw [← hW0]; exact Blk.new _ _ _)
  have HP0 := Lib.hid (hp.kept k0)
  have HN := Lib.hid hp.lt
  have HO0 := Lib.hid (show Only (· = p.B) w W0 from Only.of_kept k0)
  have HKM := Lib.hid (show l.length ≤ 30000 from hp.len)
  have HW0 := Lib.hid hW0
  have HKL := Lib.hid hk
  clear hp k0 hW0 hk
  have hf1 := field_tok1
  have hf2 := field_tok2
  go_enter Tryz.func38, Tryz.ntmps38
  go_wp2_with (rw [HW0.out])
  refine (take_l [⟨#[99, 108, 97, 115, 115]⟩] (ty := 9) HP0.out (by first | rfl | simp) rfl rfl (by decide) (by decide +kernel)).mono ?_
  rintro e w1 (⟨t1, r1, h1, h2, rfl, h4, h5, h6⟩ | ⟨q, hb, rfl, ho⟩)
  rotate_left
  · have HH := Lib.hid (show Ps.class1 F l = .bad q ∧ Only (· = p.B) w w1 from ⟨by simp only [Ps.class1, hb, Ps.O.bind_ok, Ps.O.bind_bad, eq_self, if_true, Bool.false_eq_true, if_false], HO0.out.trans ho⟩)
    clear hb ho
    go_wp2_with fail
    exact ⟨rfl, .inr ⟨_, HH.out.1, rfl, HH.out.2⟩⟩
  have HE1 := Lib.hid h1
  have HT1 := Lib.hid h6
  have HL1 := Lib.hid (show r1.length + 1 = (l).length by rw [h2]; rfl)
  have HP1 := Lib.hid h4
  have HO1 := Lib.hid (HO0.out.trans h5)
  have HZ1 := Lib.hid (Nat.le_trans HZ0.out (Only.size h5))
  have HB1 := Lib.hid (HB0.out.only h5 (by have := HN.out; omega))
  clear h1 h2 h4 h5 h6
  go_wp2_with fail
  refine (take_l [⟨#[97, 32, 99, 108, 97, 115, 115]⟩] (ty := 9) HP1.out (by first | rfl | simp) rfl rfl (by decide) (by decide +kernel)).mono ?_
  rintro e w2 (⟨t2, r2, h1, h2, rfl, h4, h5, h6⟩ | ⟨q, hb, rfl, ho⟩)
  rotate_left
  · have HH := Lib.hid (show Ps.class1 F l = .bad q ∧ Only (· = p.B) w w2 from ⟨by simp only [Ps.class1, HE1.out, hb, Ps.O.bind_ok, Ps.O.bind_bad, eq_self, if_true, Bool.false_eq_true, if_false], HO1.out.trans ho⟩)
    clear hb ho
    go_wp2_with fail
    exact ⟨rfl, .inr ⟨_, HH.out.1, rfl, HH.out.2⟩⟩
  have HE2 := Lib.hid h1
  have HT2 := Lib.hid h6
  have HL2 := Lib.hid (show r2.length + 1 = (r1).length by rw [h2]; rfl)
  have HP2 := Lib.hid h4
  have HO2 := Lib.hid (HO1.out.trans h5)
  have HZ2 := Lib.hid (Nat.le_trans HZ1.out (Only.size h5))
  have HB2 := Lib.hid (HB1.out.only h5 (by have := HN.out; omega))
  clear h1 h2 h4 h5 h6
  obtain ⟨V2, hV2⟩ : ∃ V, w2.alloc (.cells (ndA (Ps.nd 2 t2.text Ps.e0 0 []) (.slice none 0 0)) nT) = V := ⟨_, rfl⟩
  have AI2 := Lib.hid (AppI.new (x := Ps.nd 2 t2.text Ps.e0 0 []) (KRow.nil _ _) HB2.out HN.out HP2.out HO2.out rfl hV2)
  have HV2 := Lib.hid (show w2.alloc (.cells #[.int .i64 2, .string t2.text, .string Ps.e0, .string Ps.e0, .int .i64 0, (.slice none 0 0)] nT) = V2 from hV2)
  clear hV2
  go_wp2_with (rw [HV2.out])
  refine (pskip_c Ps.kColon r2 _ AI2.out.pst (by decide +kernel)).mono ?_
  rintro e w3 (⟨h1, rfl, h2, h3, h4⟩ | ⟨h1, rfl, h2, h3⟩)
  · have HE3 := Lib.hid h1
    have HL3 := Lib.hid h4
    have AI3 := Lib.hid (AI2.out.call h3 h2)
    clear h1 h2 h3 h4
    go_wp2_with fail
    refine (take_l [⟨#[97, 32, 99, 108, 97, 115, 115]⟩] (ty := 9) AI3.out.pst (by first | rfl | simp) rfl rfl (by decide) (by decide +kernel)).mono ?_
    rintro e w4 (⟨t4, r4, h1, h2, rfl, h4, h5, h6⟩ | ⟨q, hb, rfl, ho⟩)
    rotate_left
    · have HH := Lib.hid (show Ps.class1 F l = .bad q ∧ Only (· = p.B) w w4 from ⟨by simp only [Ps.class1, HE1.out, HE2.out, HE3.out, hb, Ps.O.bind_ok, Ps.O.bind_bad, eq_self, if_true, Bool.false_eq_true, if_false], AI3.out.only.trans ho⟩)
      clear hb ho
      go_wp2_with fail
      exact ⟨rfl, .inr ⟨_, HH.out.1, rfl, HH.out.2⟩⟩
    have HE4 := Lib.hid h1
    have HT4 := Lib.hid h6
    have HL4 := Lib.hid (show r4.length + 1 = (r2.tail).length by rw [h2]; rfl)
    have AI4 := Lib.hid (AI3.out.call h5 h4)
    clear h1 h2 h4 h5 h6
    obtain ⟨V4, hV4⟩ : ∃ V, w4.setCell ⟨w2.heap.size, 2, none⟩ (.string t4.text) = V := ⟨_, rfl⟩
    have AI5 := Lib.hid (AI4.out.setTyp (x' := Ps.nd 2 t2.text t4.text 0 []) ⟨rfl, rfl, rfl, rfl⟩)
    rw [show w4.setCell ⟨w2.heap.size, 2, none⟩ (.string (Ps.nd 2 t2.text t4.text 0 []).typ) = V4 from hV4] at AI5
    have HV4 := Lib.hid hV4
    clear hV4
    obtain ⟨⟨z0, z1, z2, z3, z4, z5⟩, g0, g1, g2, g3, g4, g5⟩ := nd_six AI4.out.box
    go_wp2_with (rw [HV4.out])
    clear z0 z1 z2 z3 z4 z5 g0 g1 g2 g3 g4 g5
    refine (take_l [⟨#[123]⟩] (ty := 9) AI5.out.pst (by first | rfl | simp) rfl rfl (by decide) (by decide +kernel)).mono ?_
    rintro e w6 (⟨t6, r6, h1, h2, rfl, h4, h5, h6⟩ | ⟨q, hb, rfl, ho⟩)
    rotate_left
    · have HH := Lib.hid (show Ps.class1 F l = .bad q ∧ Only (· = p.B) w w6 from ⟨by simp only [Ps.class1, HE1.out, HE2.out, HE3.out, HE4.out, hb, Ps.O.bind_ok, Ps.O.bind_bad, eq_self, if_true, Bool.false_eq_true, if_false], AI5.out.only.trans ho⟩)
      clear hb ho
      go_wp2_with fail
      exact ⟨rfl, .inr ⟨_, HH.out.1, rfl, HH.out.2⟩⟩
    have HE6 := Lib.hid h1
    have HT6 := Lib.hid h6
    have HL6 := Lib.hid (show r6.length + 1 = (r4).length by rw [h2]; rfl)
    have AI6 := Lib.hid (AI5.out.call h5 h4)
    clear h1 h2 h4 h5 h6
    go_wp2_with fail
    have HM7 := Lib.hid (show ManyI p w w2.heap.size (Ps.nd 2 t2.text t4.text 0 []) ⟨#[118, 97, 114]⟩ Ps.field (Ps.class1 F l) (fun ks r => (Ps.many ⟨#[100, 101, 102]⟩ (Ps.method F) r.length ks r).bind (fun ks r => (Ps.take [Ps.kRight] r).bind fun _ r => .ok (Ps.nd 2 t2.text t4.text 0 ks) r)) (l.length) (none) (0) ([]) r6 w6 from ⟨AI6.out, ⟨_, Nat.le_refl _, by simp only [Ps.class1, HE1.out, HE2.out, HE3.out, HE4.out, HE6.out, Ps.O.bind_ok, Ps.O.bind_bad, eq_self, if_true, Bool.false_eq_true, if_false]; rfl⟩, by show Nd.countL [] + _ ≤ _; rw [Nd.countL_nil]; have := HL1.out; have := HL2.out; have := HL3.out; have := HL4.out; have := HL6.out; omega⟩)
    go_loopw [] (fun wr => ∃ ks r va vc, Hid (ManyI p w w2.heap.size (Ps.nd 2 t2.text t4.text 0 []) ⟨#[118, 97, 114]⟩ Ps.field (Ps.class1 F l) (fun ks r => (Ps.many ⟨#[100, 101, 102]⟩ (Ps.method F) r.length ks r).bind (fun ks r => (Ps.take [Ps.kRight] r).bind fun _ r => .ok (Ps.nd 2 t2.text t4.text 0 ks) r)) (l.length) va vc ks r wr)) (fun wr => ahead p wr)
    case atStart => exact ⟨_, _, _, _, HM7⟩
    case round =>
      obtain ⟨ks7, r7, va7, vc7, HR7⟩ := hrel
      have AR7 := Lib.hid HR7.out.app
      go_wp2_with fail
      refine (is_l [⟨#[118, 97, 114]⟩] (ty := 9) AR7.out.pst rfl rfl rfl (by decide)).mono ?_
      rintro e w7 ⟨he, k1⟩
      cases hi : Ps.is [⟨#[118, 97, 114]⟩] r7 with
      | true =>
        rw [hi] at he
        subst he
        have HI7 := Lib.hid hi
        have AS7 := Lib.hid (AR7.out.kept k1)
        have HC7 := Lib.hid HR7.out.cnt
        have HM := Lib.hid (show ks7.length + 1 ≤ 60000 by have := map_fst_len ks7; have := HC7.out; have := HKM.out; omega)
        have HAH7 := Lib.hid AR7.out.pst.ahead
        clear hi k1
        go_wp2_with fail
        refine wp_region_till (S := (fun W => W.cell? ⟨w2.heap.size, 5, none⟩ = some (.slice va7 ks7.length vc7))) 7 (by kernel_rfl) (AS7.out.drew.cell5) (fun hHeld0 => ?_)
        refine wpAnyT_take (i := 0) (v := ?_) rfl (by kernel_rfl) (by kernel_rfl) (by kernel_rfl) (fun _ _ _ h => h) (Or.inl ⟨by kernel_rfl, ?_⟩) (by assumption) ?_
        rotate_left
        · intro w hSw; (try dsimp only at hSw); go_simp; (try with_reducible rfl)
        (try simp only [Act.put, List.getElem_toArray, List.getElem_cons_zero, List.getElem_cons_succ, List.setIfInBounds_toArray, List.set_cons_zero, List.set_cons_succ])
        refine wpAnyT_take (i := 1) (v := ?_) rfl (by kernel_rfl) (by kernel_rfl) (by kernel_rfl) (fun _ _ _ h => h) (Or.inl ⟨by kernel_rfl, ?_⟩) (by assumption) ?_
        rotate_left
        · intro w hSw; (try dsimp only at hSw); go_simp; (try with_reducible rfl)
        (try simp only [Act.put, List.getElem_toArray, List.getElem_cons_zero, List.getElem_cons_succ, List.setIfInBounds_toArray, List.set_cons_zero, List.set_cons_succ])
        refine wpAnyT_take (i := 2) (v := ?_) rfl (by kernel_rfl) (by kernel_rfl) (by kernel_rfl) (fun _ _ _ h => h) (Or.inl ⟨by kernel_rfl, ?_⟩) (by assumption) ?_
        rotate_left
        · intro w hSw; (try dsimp only at hSw); go_simp; (try with_reducible rfl)
        (try simp only [Act.put, List.getElem_toArray, List.getElem_cons_zero, List.getElem_cons_succ, List.setIfInBounds_toArray, List.set_cons_zero, List.set_cons_succ])
        refine wpAnyT_ready (rs := [3]) (by kernel_rfl) (by simp) ?_
        refine AllReadyT.cons rfl (fun K hK => ?_) AllReadyT.nil
        go_simp
        refine ((pfield_c r7 _ AS7.out.pst.drew)).mono ?_
        rintro e w8 (⟨x8, ks8, r8, v8, h1, rfl, hx, hk, h4, h5, hok, h7⟩ | ⟨q, hb, rfl, ho⟩)
        rotate_left
        · have HH := Lib.hid (show Ps.class1 F l = .bad q ∧ Only (· = p.B) w w8 from ⟨by simp only [HR7.out.bad HI7.out hb, hb, Ps.O.bind_ok, Ps.O.bind_bad, eq_self, if_true, Bool.false_eq_true, if_false], AS7.out.drew.only.trans ho⟩)
          clear hb ho
          exact ⟨rfl, .inr ⟨_, HH.out.1, rfl, HH.out.2⟩⟩
        have HE8 := Lib.hid h1
        have HX8 := Lib.hid (And.intro hx hok)
        have HL8 := Lib.hid h7
        obtain ⟨ai8, hs8, h28⟩ := AS7.out.drew.asks h5 h4 hx hk hok
        refine hK.out _ _ ((AS7.out.drew.call h5 h4).cell5) (fun hHeld1 => ?_)
        clear hK K
        (try simp only [Act.put, List.getElem_toArray, List.getElem_cons_zero, List.getElem_cons_succ, List.setIfInBounds_toArray, List.set_cons_zero, List.set_cons_succ])
        refine wpAnyT_ready (rs := [4]) (by kernel_rfl) (by simp) ?_
        refine AllReadyT.cons rfl (fun K hK => ?_) AllReadyT.nil
        go_simp
        refine hK.out _ _ ai8.cell5 (fun hHeld2 => ?_)
        clear hK K
        (try simp only [Act.put, List.getElem_toArray, List.getElem_cons_zero, List.getElem_cons_succ, List.setIfInBounds_toArray, List.set_cons_zero, List.set_cons_succ])
        have AJ8 := Lib.hid ai8
        have HS8 := Lib.hid hs8
        have H28 := Lib.hid h28
        clear ai8 hs8 h28 h1 hx hk h4 h5 hok h7 hHeld0 hHeld1
        refine wpAnyT_ready (rs := [5]) (by kernel_rfl) (by simp) ?_
        refine AllReadyT.cons rfl (fun K hK => ?_) AllReadyT.nil
        refine step_nd (k2 := [(x8, v8)]) (.tmp 26) (.tmp 29) rfl rfl rfl AJ8.out.row rfl HS8.out H28.out AJ8.out.size (by first | (simp; done) | (have := HM.out; simp; omega)) ?_
        intro ka8 kc8 wa8 hr ho hl
        obtain ⟨q0, q1, q2⟩ := AJ8.out.more hr ho hl
        refine hK.out _ _ q0 (fun hHeld3 => ?_)
        clear hK K
        (try simp only [Act.put, List.getElem_toArray, List.getElem_cons_zero, List.getElem_cons_succ, List.setIfInBounds_toArray, List.set_cons_zero, List.set_cons_succ])
        refine wpAnyT_take (i := 6) (v := ?_) rfl (by kernel_rfl) (by kernel_rfl) (by kernel_rfl) (fun _ _ _ h => h) (Or.inl ⟨by kernel_rfl, ?_⟩) (by assumption) ?_
        rotate_left
        · intro w hSw; (try dsimp only at hSw); go_simp; (try with_reducible rfl)
        (try simp only [Act.put, List.getElem_toArray, List.getElem_cons_zero, List.getElem_cons_succ, List.setIfInBounds_toArray, List.set_cons_zero, List.set_cons_succ])
        clear hr ho hl hHeld2 hHeld3
        refine wpAnyT_ready (rs := [7]) (by kernel_rfl) (by simp) ?_
        refine AllReadyT.fin rfl (fun K hK => ?_)
        go_simp
        refine hK.out _ _ ?_
        clear hK K
        (try simp only [Act.put, List.getElem_toArray, List.getElem_cons_zero, List.getElem_cons_succ, List.setIfInBounds_toArray, List.set_cons_zero, List.set_cons_succ])
        refine wpAnyT_done (by kernel_rfl) ?_ _
        have hm := HR7.out.ok HI7.out HE8.out HL8.out (show ks7.length + [(x8, v8)].length = ks7.length + 1 from rfl) q2
        obtain ⟨Y8, hY8⟩ : ∃ Y, wa8.setCell ⟨w2.heap.size, 5, none⟩ (.slice ka8 (ks7.length + 1) kc8) = Y := ⟨_, rfl⟩
        rw [show wa8.setCell ⟨w2.heap.size, 5, none⟩ (.slice ka8 (ks7.length + [(x8, v8)].length) kc8) = Y8 from hY8] at hm
        have HM2 := Lib.hid hm
        have HY8 := Lib.hid hY8
        clear hm hY8 q0 q1 q2
        rw [HY8.out]
        go_wp2_with fail
        go_roundw
        case rel => exact ⟨_, _, _, _, HM2⟩
        case measure =>
          have h1 := HM2.out.app.pst.ahead
          have h2 := HAH7.out
          have h3 := HL8.out
          have h4 := Nd.count_pos x8
          rw [h1, h2]; omega
      | false =>
        rw [hi] at he
        subst he
        have HE7 := Lib.hid (HR7.out.out hi)
        have AI7 := Lib.hid (AR7.out.kept k1)
        have HC7 := Lib.hid HR7.out.cnt
        have HM := Lib.hid (show ks7.length + 1 ≤ 60000 by have := map_fst_len ks7; have := HC7.out; have := HKM.out; omega)
        clear hi k1
        go_wp2_with fail
        have HM9 := Lib.hid (show ManyI p w w2.heap.size (Ps.nd 2 t2.text t4.text 0 []) ⟨#[100, 101, 102]⟩ (Ps.method F) (Ps.class1 F l) (fun ks r => (Ps.take [Ps.kRight] r).bind fun _ r => .ok (Ps.nd 2 t2.text t4.text 0 ks) r) (l.length) (va7) (vc7) (ks7) r7 w7 from ⟨AI7.out, ⟨_, Nat.le_refl _, by exact HE7.out⟩, by exact HC7.out⟩)
        go_loopw [] (fun wr => ∃ ks r va vc, Hid (ManyI p w w2.heap.size (Ps.nd 2 t2.text t4.text 0 []) ⟨#[100, 101, 102]⟩ (Ps.method F) (Ps.class1 F l) (fun ks r => (Ps.take [Ps.kRight] r).bind fun _ r => .ok (Ps.nd 2 t2.text t4.text 0 ks) r) (l.length) va vc ks r wr)) (fun wr => ahead p wr)
        case atStart => exact ⟨_, _, _, _, HM9⟩
        case round =>
          obtain ⟨ks9, r9, va9, vc9, HR9⟩ := hrel
          have AR9 := Lib.hid HR9.out.app
          go_wp2_with fail
          refine (is_l [⟨#[100, 101, 102]⟩] (ty := 9) AR9.out.pst rfl rfl rfl (by decide)).mono ?_
          rintro e w9 ⟨he, k1⟩
          cases hi : Ps.is [⟨#[100, 101, 102]⟩] r9 with
          | true =>
            rw [hi] at he
            subst he
            have HI9 := Lib.hid hi
            have AS9 := Lib.hid (AR9.out.kept k1)
            have HC9 := Lib.hid HR9.out.cnt
            have HM := Lib.hid (show ks9.length + 1 ≤ 60000 by have := map_fst_len ks9; have := HC9.out; have := HKM.out; omega)
            have HAH9 := Lib.hid AR9.out.pst.ahead
            clear hi k1
            go_wp2_with fail
            refine wp_region_till (S := (fun W => W.cell? ⟨w2.heap.size, 5, none⟩ = some (.slice va9 ks9.length vc9))) 7 (by kernel_rfl) (AS9.out.drew.cell5) (fun hHeld0 => ?_)
            refine wpAnyT_take (i := 0) (v := ?_) rfl (by kernel_rfl) (by kernel_rfl) (by kernel_rfl) (fun _ _ _ h => h) (Or.inl ⟨by kernel_rfl, ?_⟩) (by assumption) ?_
            rotate_left
            · intro w hSw; (try dsimp only at hSw); go_simp; (try with_reducible rfl)
            (try simp only [Act.put, List.getElem_toArray, List.getElem_cons_zero, List.getElem_cons_succ, List.setIfInBounds_toArray, List.set_cons_zero, List.set_cons_succ])
            refine wpAnyT_take (i := 1) (v := ?_) rfl (by kernel_rfl) (by kernel_rfl) (by kernel_rfl) (fun _ _ _ h => h) (Or.inl ⟨by kernel_rfl, ?_⟩) (by assumption) ?_
            rotate_left
            · intro w hSw; (try dsimp only at hSw); go_simp; (try with_reducible rfl)
            (try simp only [Act.put, List.getElem_toArray, List.getElem_cons_zero, List.getElem_cons_succ, List.setIfInBounds_toArray, List.set_cons_zero, List.set_cons_succ])
            refine wpAnyT_take (i := 2) (v := ?_) rfl (by kernel_rfl) (by kernel_rfl) (by kernel_rfl) (fun _ _ _ h => h) (Or.inl ⟨by kernel_rfl, ?_⟩) (by assumption) ?_
            rotate_left
            · intro w hSw; (try dsimp only at hSw); go_simp; (try with_reducible rfl)
            (try simp only [Act.put, List.getElem_toArray, List.getElem_cons_zero, List.getElem_cons_succ, List.setIfInBounds_toArray, List.set_cons_zero, List.set_cons_succ])
            refine wpAnyT_ready (rs := [3]) (by kernel_rfl) (by simp) ?_
            refine AllReadyT.cons rfl (fun K hK => ?_) AllReadyT.nil
            go_simp
            refine ((pmethod_c hF r9 _ (by have := HC9.out; have := HKL.out; omega) AS9.out.pst.drew)).mono ?_
            rintro e w10 (⟨x10, ks10, r10, v10, h1, rfl, hx, hk, h4, h5, hok, h7⟩ | ⟨q, hb, rfl, ho⟩)
            rotate_left
            · have HH := Lib.hid (show Ps.class1 F l = .bad q ∧ Only (· = p.B) w w10 from ⟨by simp only [HR9.out.bad HI9.out hb, hb, Ps.O.bind_ok, Ps.O.bind_bad, eq_self, if_true, Bool.false_eq_true, if_false], AS9.out.drew.only.trans ho⟩)
              clear hb ho
              exact ⟨rfl, .inr ⟨_, HH.out.1, rfl, HH.out.2⟩⟩
            have HE10 := Lib.hid h1
            have HX10 := Lib.hid (And.intro hx hok)
            have HL10 := Lib.hid h7
            obtain ⟨ai10, hs10, h210⟩ := AS9.out.drew.asks h5 h4 hx hk hok
            refine hK.out _ _ ((AS9.out.drew.call h5 h4).cell5) (fun hHeld1 => ?_)
            clear hK K
            (try simp only [Act.put, List.getElem_toArray, List.getElem_cons_zero, List.getElem_cons_succ, List.setIfInBounds_toArray, List.set_cons_zero, List.set_cons_succ])
            refine wpAnyT_ready (rs := [4]) (by kernel_rfl) (by simp) ?_
            refine AllReadyT.cons rfl (fun K hK => ?_) AllReadyT.nil
            go_simp
            refine hK.out _ _ ai10.cell5 (fun hHeld2 => ?_)
            clear hK K
            (try simp only [Act.put, List.getElem_toArray, List.getElem_cons_zero, List.getElem_cons_succ, List.setIfInBounds_toArray, List.set_cons_zero, List.set_cons_succ])
            have AJ10 := Lib.hid ai10
            have HS10 := Lib.hid hs10
            have H210 := Lib.hid h210
            clear ai10 hs10 h210 h1 hx hk h4 h5 hok h7 hHeld0 hHeld1
            refine wpAnyT_ready (rs := [5]) (by kernel_rfl) (by simp) ?_
            refine AllReadyT.cons rfl (fun K hK => ?_) AllReadyT.nil
            refine step_nd (k2 := [(x10, v10)]) (.tmp 36) (.tmp 39) rfl rfl rfl AJ10.out.row rfl HS10.out H210.out AJ10.out.size (by first | (simp; done) | (have := HM.out; simp; omega)) ?_
            intro ka10 kc10 wa10 hr ho hl
            obtain ⟨q0, q1, q2⟩ := AJ10.out.more hr ho hl
            refine hK.out _ _ q0 (fun hHeld3 => ?_)
            clear hK K
            (try simp only [Act.put, List.getElem_toArray, List.getElem_cons_zero, List.getElem_cons_succ, List.setIfInBounds_toArray, List.set_cons_zero, List.set_cons_succ])
            refine wpAnyT_take (i := 6) (v := ?_) rfl (by kernel_rfl) (by kernel_rfl) (by kernel_rfl) (fun _ _ _ h => h) (Or.inl ⟨by kernel_rfl, ?_⟩) (by assumption) ?_
            rotate_left
            · intro w hSw; (try dsimp only at hSw); go_simp; (try with_reducible rfl)
            (try simp only [Act.put, List.getElem_toArray, List.getElem_cons_zero, List.getElem_cons_succ, List.setIfInBounds_toArray, List.set_cons_zero, List.set_cons_succ])
            clear hr ho hl hHeld2 hHeld3
            refine wpAnyT_ready (rs := [7]) (by kernel_rfl) (by simp) ?_
            refine AllReadyT.fin rfl (fun K hK => ?_)
            go_simp
            refine hK.out _ _ ?_
            clear hK K
            (try simp only [Act.put, List.getElem_toArray, List.getElem_cons_zero, List.getElem_cons_succ, List.setIfInBounds_toArray, List.set_cons_zero, List.set_cons_succ])
            refine wpAnyT_done (by kernel_rfl) ?_ _
            have hm := HR9.out.ok HI9.out HE10.out HL10.out (show ks9.length + [(x10, v10)].length = ks9.length + 1 from rfl) q2
            obtain ⟨Y10, hY10⟩ : ∃ Y, wa10.setCell ⟨w2.heap.size, 5, none⟩ (.slice ka10 (ks9.length + 1) kc10) = Y := ⟨_, rfl⟩
            rw [show wa10.setCell ⟨w2.heap.size, 5, none⟩ (.slice ka10 (ks9.length + [(x10, v10)].length) kc10) = Y10 from hY10] at hm
            have HM2 := Lib.hid hm
            have HY10 := Lib.hid hY10
            clear hm hY10 q0 q1 q2
            rw [HY10.out]
            go_wp2_with fail
            go_roundw
            case rel => exact ⟨_, _, _, _, HM2⟩
            case measure =>
              have h1 := HM2.out.app.pst.ahead
              have h2 := HAH9.out
              have h3 := HL10.out
              have h4 := Nd.count_pos x10
              rw [h1, h2]; omega
          | false =>
            rw [hi] at he
            subst he
            have HE9 := Lib.hid (HR9.out.out hi)
            have AI9 := Lib.hid (AR9.out.kept k1)
            have HC9 := Lib.hid HR9.out.cnt
            have HM := Lib.hid (show ks9.length + 1 ≤ 60000 by have := map_fst_len ks9; have := HC9.out; have := HKM.out; omega)
            clear hi k1
            go_wp2_with fail
            refine (take_l [⟨#[125]⟩] (ty := 9) AI9.out.pst (by first | rfl | simp) rfl rfl (by decide) (by decide +kernel)).mono ?_
            rintro e w11 (⟨t11, r11, h1, h2, rfl, h4, h5, h6⟩ | ⟨q, hb, rfl, ho⟩)
            rotate_left
            · have HH := Lib.hid (show Ps.class1 F l = .bad q ∧ Only (· = p.B) w w11 from ⟨by simp only [HE9.out, hb, Ps.O.bind_ok, Ps.O.bind_bad, eq_self, if_true, Bool.false_eq_true, if_false], AI9.out.only.trans ho⟩)
              clear hb ho
              go_wp2_with fail
              exact ⟨rfl, .inr ⟨_, HH.out.1, rfl, HH.out.2⟩⟩
            have HE11 := Lib.hid h1
            have HT11 := Lib.hid h6
            have HL11 := Lib.hid (show r11.length + 1 = (r9).length by rw [h2]; rfl)
            have AI11 := Lib.hid (AI9.out.call h5 h4)
            clear h1 h2 h4 h5 h6
            obtain ⟨⟨z0, z1, z2, z3, z4, z5⟩, g0, g1, g2, g3, g4, g5⟩ := nd_six AI11.out.box
            obtain ⟨⟨y0, y1, y2, y3, y4, y5⟩, f0, f1, f2, f3, f4, f5⟩ := nd_six AI11.out.res
            go_wp2_with fail
            refine AI11.out.end (y := Ps.nd 2 t2.text t4.text 0 (ks9.map (·.1))) (by rfl) rfl rfl ⟨rfl, rfl, rfl, rfl, rfl⟩ (by simp only [HE9.out, HE11.out, Ps.O.bind_ok, Ps.O.bind_bad, eq_self, if_true, Bool.false_eq_true, if_false]) rfl (nd_ok1 _ _ _ _ _ (by decide) HT2.out.2.1 HT4.out.2.1 (by decide)) ?_
            have := HL1.out; have := HL2.out; have := HL11.out; have := HC9.out
            rw [count_nd]; omega
  · have HE3 := Lib.hid h1
    have AI3 := Lib.hid (AI2.out.call h3 h2)
    clear h1 h2 h3
    go_wp2_with fail
    refine (take_l [⟨#[123]⟩] (ty := 9) AI3.out.pst (by first | rfl | simp) rfl rfl (by decide) (by decide +kernel)).mono ?_
    rintro e w4 (⟨t4, r4, h1, h2, rfl, h4, h5, h6⟩ | ⟨q, hb, rfl, ho⟩)
    rotate_left
    · have HH := Lib.hid (show Ps.class1 F l = .bad q ∧ Only (· = p.B) w w4 from ⟨by simp only [Ps.class1, HE1.out, HE2.out, HE3.out, hb, Ps.O.bind_ok, Ps.O.bind_bad, eq_self, if_true, Bool.false_eq_true, if_false], AI3.out.only.trans ho⟩)
      clear hb ho
      go_wp2_with fail
      exact ⟨rfl, .inr ⟨_, HH.out.1, rfl, HH.out.2⟩⟩
    have HE4 := Lib.hid h1
    have HT4 := Lib.hid h6
    have HL4 := Lib.hid (show r4.length + 1 = (r2).length by rw [h2]; rfl)
    have AI4 := Lib.hid (AI3.out.call h5 h4)
    clear h1 h2 h4 h5 h6
    go_wp2_with fail
    have HM5 := Lib.hid (show ManyI p w w2.heap.size (Ps.nd 2 t2.text Ps.e0 0 []) ⟨#[118, 97, 114]⟩ Ps.field (Ps.class1 F l) (fun ks r => (Ps.many ⟨#[100, 101, 102]⟩ (Ps.method F) r.length ks r).bind (fun ks r => (Ps.take [Ps.kRight] r).bind fun _ r => .ok (Ps.nd 2 t2.text Ps.e0 0 ks) r)) (l.length) (none) (0) ([]) r4 w4 from ⟨AI4.out, ⟨_, Nat.le_refl _, by simp only [Ps.class1, HE1.out, HE2.out, HE3.out, HE4.out, Ps.O.bind_ok, Ps.O.bind_bad, eq_self, if_true, Bool.false_eq_true, if_false]; rfl⟩, by show Nd.countL [] + _ ≤ _; rw [Nd.countL_nil]; have := HL1.out; have := HL2.out;  have := HL4.out; omega⟩)
    go_loopw [] (fun wr => ∃ ks r va vc, Hid (ManyI p w w2.heap.size (Ps.nd 2 t2.text Ps.e0 0 []) ⟨#[118, 97, 114]⟩ Ps.field (Ps.class1 F l) (fun ks r => (Ps.many ⟨#[100, 101, 102]⟩ (Ps.method F) r.length ks r).bind (fun ks r => (Ps.take [Ps.kRight] r).bind fun _ r => .ok (Ps.nd 2 t2.text Ps.e0 0 ks) r)) (l.length) va vc ks r wr)) (fun wr => ahead p wr)
    case atStart => exact ⟨_, _, _, _, HM5⟩
    case round =>
      obtain ⟨ks5, r5, va5, vc5, HR5⟩ := hrel
      have AR5 := Lib.hid HR5.out.app
      go_wp2_with fail
      refine (is_l [⟨#[118, 97, 114]⟩] (ty := 9) AR5.out.pst rfl rfl rfl (by decide)).mono ?_
      rintro e w5 ⟨he, k1⟩
      cases hi : Ps.is [⟨#[118, 97, 114]⟩] r5 with
      | true =>
        rw [hi] at he
        subst he
        have HI5 := Lib.hid hi
        have AS5 := Lib.hid (AR5.out.kept k1)
        have HC5 := Lib.hid HR5.out.cnt
        have HM := Lib.hid (show ks5.length + 1 ≤ 60000 by have := map_fst_len ks5; have := HC5.out; have := HKM.out; omega)
        have HAH5 := Lib.hid AR5.out.pst.ahead
        clear hi k1
        go_wp2_with fail
        refine wp_region_till (S := (fun W => W.cell? ⟨w2.heap.size, 5, none⟩ = some (.slice va5 ks5.length vc5))) 7 (by kernel_rfl) (AS5.out.drew.cell5) (fun hHeld0 => ?_)
        refine wpAnyT_take (i := 0) (v := ?_) rfl (by kernel_rfl) (by kernel_rfl) (by kernel_rfl) (fun _ _ _ h => h) (Or.inl ⟨by kernel_rfl, ?_⟩) (by assumption) ?_
        rotate_left
        · intro w hSw; (try dsimp only at hSw); go_simp; (try with_reducible rfl)
        (try simp only [Act.put, List.getElem_toArray, List.getElem_cons_zero, List.getElem_cons_succ, List.setIfInBounds_toArray, List.set_cons_zero, List.set_cons_succ])
        refine wpAnyT_take (i := 1) (v := ?_) rfl (by kernel_rfl) (by kernel_rfl) (by kernel_rfl) (fun _ _ _ h => h) (Or.inl ⟨by kernel_rfl, ?_⟩) (by assumption) ?_
        rotate_left
        · intro w hSw; (try dsimp only at hSw); go_simp; (try with_reducible rfl)
        (try simp only [Act.put, List.getElem_toArray, List.getElem_cons_zero, List.getElem_cons_succ, List.setIfInBounds_toArray, List.set_cons_zero, List.set_cons_succ])
        refine wpAnyT_take (i := 2) (v := ?_) rfl (by kernel_rfl) (by kernel_rfl) (by kernel_rfl) (fun _ _ _ h => h) (Or.inl ⟨by kernel_rfl, ?_⟩) (by assumption) ?_
        rotate_left
        · intro w hSw; (try dsimp only at hSw); go_simp; (try with_reducible rfl)
        (try simp only [Act.put, List.getElem_toArray, List.getElem_cons_zero, List.getElem_cons_succ, List.setIfInBounds_toArray, List.set_cons_zero, List.set_cons_succ])
        refine wpAnyT_ready (rs := [3]) (by kernel_rfl) (by simp) ?_
        refine AllReadyT.cons rfl (fun K hK => ?_) AllReadyT.nil
        go_simp
        refine ((pfield_c r5 _ AS5.out.pst.drew)).mono ?_
        rintro e w6 (⟨x6, ks6, r6, v6, h1, rfl, hx, hk, h4, h5, hok, h7⟩ | ⟨q, hb, rfl, ho⟩)
        rotate_left
        · have HH := Lib.hid (show Ps.class1 F l = .bad q ∧ Only (· = p.B) w w6 from ⟨by simp only [HR5.out.bad HI5.out hb, hb, Ps.O.bind_ok, Ps.O.bind_bad, eq_self, if_true, Bool.false_eq_true, if_false], AS5.out.drew.only.trans ho⟩)
          clear hb ho
          exact ⟨rfl, .inr ⟨_, HH.out.1, rfl, HH.out.2⟩⟩
        have HE6 := Lib.hid h1
        have HX6 := Lib.hid (And.intro hx hok)
        have HL6 := Lib.hid h7
        obtain ⟨ai6, hs6, h26⟩ := AS5.out.drew.asks h5 h4 hx hk hok
        refine hK.out _ _ ((AS5.out.drew.call h5 h4).cell5) (fun hHeld1 => ?_)
        clear hK K
        (try simp only [Act.put, List.getElem_toArray, List.getElem_cons_zero, List.getElem_cons_succ, List.setIfInBounds_toArray, List.set_cons_zero, List.set_cons_succ])
        refine wpAnyT_ready (rs := [4]) (by kernel_rfl) (by simp) ?_
        refine AllReadyT.cons rfl (fun K hK => ?_) AllReadyT.nil
        go_simp
        refine hK.out _ _ ai6.cell5 (fun hHeld2 => ?_)
        clear hK K
        (try simp only [Act.put, List.getElem_toArray, List.getElem_cons_zero, List.getElem_cons_succ, List.setIfInBounds_toArray, List.set_cons_zero, List.set_cons_succ])
        have AJ6 := Lib.hid ai6
        have HS6 := Lib.hid hs6
        have H26 := Lib.hid h26
        clear ai6 hs6 h26 h1 hx hk h4 h5 hok h7 hHeld0 hHeld1
        refine wpAnyT_ready (rs := [5]) (by kernel_rfl) (by simp) ?_
        refine AllReadyT.cons rfl (fun K hK => ?_) AllReadyT.nil
        refine step_nd (k2 := [(x6, v6)]) (.tmp 26) (.tmp 29) rfl rfl rfl AJ6.out.row rfl HS6.out H26.out AJ6.out.size (by first | (simp; done) | (have := HM.out; simp; omega)) ?_
        intro ka6 kc6 wa6 hr ho hl
        obtain ⟨q0, q1, q2⟩ := AJ6.out.more hr ho hl
        refine hK.out _ _ q0 (fun hHeld3 => ?_)
        clear hK K
        (try simp only [Act.put, List.getElem_toArray, List.getElem_cons_zero, List.getElem_cons_succ, List.setIfInBounds_toArray, List.set_cons_zero, List.set_cons_succ])
        refine wpAnyT_take (i := 6) (v := ?_) rfl (by kernel_rfl) (by kernel_rfl) (by kernel_rfl) (fun _ _ _ h => h) (Or.inl ⟨by kernel_rfl, ?_⟩) (by assumption) ?_
        rotate_left
        · intro w hSw; (try dsimp only at hSw); go_simp; (try with_reducible rfl)
        (try simp only [Act.put, List.getElem_toArray, List.getElem_cons_zero, List.getElem_cons_succ, List.setIfInBounds_toArray, List.set_cons_zero, List.set_cons_succ])
        clear hr ho hl hHeld2 hHeld3
        refine wpAnyT_ready (rs := [7]) (by kernel_rfl) (by simp) ?_
        refine AllReadyT.fin rfl (fun K hK => ?_)
        go_simp
        refine hK.out _ _ ?_
        clear hK K
        (try simp only [Act.put, List.getElem_toArray, List.getElem_cons_zero, List.getElem_cons_succ, List.setIfInBounds_toArray, List.set_cons_zero, List.set_cons_succ])
        refine wpAnyT_done (by kernel_rfl) ?_ _
        have hm := HR5.out.ok HI5.out HE6.out HL6.out (show ks5.length + [(x6, v6)].length = ks5.length + 1 from rfl) q2
        obtain ⟨Y6, hY6⟩ : ∃ Y, wa6.setCell ⟨w2.heap.size, 5, none⟩ (.slice ka6 (ks5.length + 1) kc6) = Y := ⟨_, rfl⟩
        rw [show wa6.setCell ⟨w2.heap.size, 5, none⟩ (.slice ka6 (ks5.length + [(x6, v6)].length) kc6) = Y6 from hY6] at hm
        have HM2 := Lib.hid hm
        have HY6 := Lib.hid hY6
        clear hm hY6 q0 q1 q2
        rw [HY6.out]
        go_wp2_with fail
        go_roundw
        case rel => exact ⟨_, _, _, _, HM2⟩
        case measure =>
          have h1 := HM2.out.app.pst.ahead
          have h2 := HAH5.out
          have h3 := HL6.out
          have h4 := Nd.count_pos x6
          rw [h1, h2]; omega
      | false =>
        rw [hi] at he
        subst he
        have HE5 := Lib.hid (HR5.out.out hi)
        have AI5 := Lib.hid (AR5.out.kept k1)
        have HC5 := Lib.hid HR5.out.cnt
        have HM := Lib.hid (show ks5.length + 1 ≤ 60000 by have := map_fst_len ks5; have := HC5.out; have := HKM.out; omega)
        clear hi k1
        go_wp2_with fail
        have HM7 := Lib.hid (show ManyI p w w2.heap.size (Ps.nd 2 t2.text Ps.e0 0 []) ⟨#[100, 101, 102]⟩ (Ps.method F) (Ps.class1 F l) (fun ks r => (Ps.take [Ps.kRight] r).bind fun _ r => .ok (Ps.nd 2 t2.text Ps.e0 0 ks) r) (l.length) (va5) (vc5) (ks5) r5 w5 from ⟨AI5.out, ⟨_, Nat.le_refl _, by exact HE5.out⟩, by exact HC5.out⟩)
        go_loopw [] (fun wr => ∃ ks r va vc, Hid (ManyI p w w2.heap.size (Ps.nd 2 t2.text Ps.e0 0 []) ⟨#[100, 101, 102]⟩ (Ps.method F) (Ps.class1 F l) (fun ks r => (Ps.take [Ps.kRight] r).bind fun _ r => .ok (Ps.nd 2 t2.text Ps.e0 0 ks) r) (l.length) va vc ks r wr)) (fun wr => ahead p wr)
        case atStart => exact ⟨_, _, _, _, HM7⟩
        case round =>
          obtain ⟨ks7, r7, va7, vc7, HR7⟩ := hrel
          have AR7 := Lib.hid HR7.out.app
          go_wp2_with fail
          refine (is_l [⟨#[100, 101, 102]⟩] (ty := 9) AR7.out.pst rfl rfl rfl (by decide)).mono ?_
          rintro e w7 ⟨he, k1⟩
          cases hi : Ps.is [⟨#[100, 101, 102]⟩] r7 with
          | true =>
            rw [hi] at he
            subst he
            have HI7 := Lib.hid hi
            have AS7 := Lib.hid (AR7.out.kept k1)
            have HC7 := Lib.hid HR7.out.cnt
            have HM := Lib.hid (show ks7.length + 1 ≤ 60000 by have := map_fst_len ks7; have := HC7.out; have := HKM.out; omega)
            have HAH7 := Lib.hid AR7.out.pst.ahead
            clear hi k1
            go_wp2_with fail
            refine wp_region_till (S := (fun W => W.cell? ⟨w2.heap.size, 5, none⟩ = some (.slice va7 ks7.length vc7))) 7 (by kernel_rfl) (AS7.out.drew.cell5) (fun hHeld0 => ?_)
            refine wpAnyT_take (i := 0) (v := ?_) rfl (by kernel_rfl) (by kernel_rfl) (by kernel_rfl) (fun _ _ _ h => h) (Or.inl ⟨by kernel_rfl, ?_⟩) (by assumption) ?_
            rotate_left
            · intro w hSw; (try dsimp only at hSw); go_simp; (try with_reducible rfl)
            (try simp only [Act.put, List.getElem_toArray, List.getElem_cons_zero, List.getElem_cons_succ, List.setIfInBounds_toArray, List.set_cons_zero, List.set_cons_succ])
            refine wpAnyT_take (i := 1) (v := ?_) rfl (by kernel_rfl) (by kernel_rfl) (by kernel_rfl) (fun _ _ _ h => h) (Or.inl ⟨by kernel_rfl, ?_⟩) (by assumption) ?_
            rotate_left
            · intro w hSw; (try dsimp only at hSw); go_simp; (try with_reducible rfl)
            (try simp only [Act.put, List.getElem_toArray, List.getElem_cons_zero, List.getElem_cons_succ, List.setIfInBounds_toArray, List.set_cons_zero, List.set_cons_succ])
            refine wpAnyT_take (i := 2) (v := ?_) rfl (by kernel_rfl) (by kernel_rfl) (by kernel_rfl) (fun _ _ _ h => h) (Or.inl ⟨by kernel_rfl, ?_⟩) (by assumption) ?_
            rotate_left
            · intro w hSw; (try dsimp only at hSw); go_simp; (try with_reducible rfl)
            (try simp only [Act.put, List.getElem_toArray, List.getElem_cons_zero, List.getElem_cons_succ, List.setIfInBounds_toArray, List.set_cons_zero, List.set_cons_succ])
            refine wpAnyT_ready (rs := [3]) (by kernel_rfl) (by simp) ?_
            refine AllReadyT.cons rfl (fun K hK => ?_) AllReadyT.nil
            go_simp
            refine ((pmethod_c hF r7 _ (by have := HC7.out; have := HKL.out; omega) AS7.out.pst.drew)).mono ?_
            rintro e w8 (⟨x8, ks8, r8, v8, h1, rfl, hx, hk, h4, h5, hok, h7⟩ | ⟨q, hb, rfl, ho⟩)
            rotate_left
            · have HH := Lib.hid (show Ps.class1 F l = .bad q ∧ Only (· = p.B) w w8 from ⟨by simp only [HR7.out.bad HI7.out hb, hb, Ps.O.bind_ok, Ps.O.bind_bad, eq_self, if_true, Bool.false_eq_true, if_false], AS7.out.drew.only.trans ho⟩)
              clear hb ho
              exact ⟨rfl, .inr ⟨_, HH.out.1, rfl, HH.out.2⟩⟩
            have HE8 := Lib.hid h1
            have HX8 := Lib.hid (And.intro hx hok)
            have HL8 := Lib.hid h7
            obtain ⟨ai8, hs8, h28⟩ := AS7.out.drew.asks h5 h4 hx hk hok
            refine hK.out _ _ ((AS7.out.drew.call h5 h4).cell5) (fun hHeld1 => ?_)
            clear hK K
            (try simp only [Act.put, List.getElem_toArray, List.getElem_cons_zero, List.getElem_cons_succ, List.setIfInBounds_toArray, List.set_cons_zero, List.set_cons_succ])
            refine wpAnyT_ready (rs := [4]) (by kernel_rfl) (by simp) ?_
            refine AllReadyT.cons rfl (fun K hK => ?_) AllReadyT.nil
            go_simp
            refine hK.out _ _ ai8.cell5 (fun hHeld2 => ?_)
            clear hK K
            (try simp only [Act.put, List.getElem_toArray, List.getElem_cons_zero, List.getElem_cons_succ, List.setIfInBounds_toArray, List.set_cons_zero, List.set_cons_succ])
            have AJ8 := Lib.hid ai8
            have HS8 := Lib.hid hs8
            have H28 := Lib.hid h28
            clear ai8 hs8 h28 h1 hx hk h4 h5 hok h7 hHeld0 hHeld1
            refine wpAnyT_ready (rs := [5]) (by kernel_rfl) (by simp) ?_
            refine AllReadyT.cons rfl (fun K hK => ?_) AllReadyT.nil
            refine step_nd (k2 := [(x8, v8)]) (.tmp 36) (.tmp 39) rfl rfl rfl AJ8.out.row rfl HS8.out H28.out AJ8.out.size (by first | (simp; done) | (have := HM.out; simp; omega)) ?_
            intro ka8 kc8 wa8 hr ho hl
            obtain ⟨q0, q1, q2⟩ := AJ8.out.more hr ho hl
            refine hK.out _ _ q0 (fun hHeld3 => ?_)
            clear hK K
            (try simp only [Act.put, List.getElem_toArray, List.getElem_cons_zero, List.getElem_cons_succ, List.setIfInBounds_toArray, List.set_cons_zero, List.set_cons_succ])
            refine wpAnyT_take (i := 6) (v := ?_) rfl (by kernel_rfl) (by kernel_rfl) (by kernel_rfl) (fun _ _ _ h => h) (Or.inl ⟨by kernel_rfl, ?_⟩) (by assumption) ?_
            rotate_left
            · intro w hSw; (try dsimp only at hSw); go_simp; (try with_reducible rfl)
            (try simp only [Act.put, List.getElem_toArray, List.getElem_cons_zero, List.getElem_cons_succ, List.setIfInBounds_toArray, List.set_cons_zero, List.set_cons_succ])
            clear hr ho hl hHeld2 hHeld3
            refine wpAnyT_ready (rs := [7]) (by kernel_rfl) (by simp) ?_
            refine AllReadyT.fin rfl (fun K hK => ?_)
            go_simp
            refine hK.out _ _ ?_
            clear hK K
            (try simp only [Act.put, List.getElem_toArray, List.getElem_cons_zero, List.getElem_cons_succ, List.setIfInBounds_toArray, List.set_cons_zero, List.set_cons_succ])
            refine wpAnyT_done (by kernel_rfl) ?_ _
            have hm := HR7.out.ok HI7.out HE8.out HL8.out (show ks7.length + [(x8, v8)].length = ks7.length + 1 from rfl) q2
            obtain ⟨Y8, hY8⟩ : ∃ Y, wa8.setCell ⟨w2.heap.size, 5, none⟩ (.slice ka8 (ks7.length + 1) kc8) = Y := ⟨_, rfl⟩
            rw [show wa8.setCell ⟨w2.heap.size, 5, none⟩ (.slice ka8 (ks7.length + [(x8, v8)].length) kc8) = Y8 from hY8] at hm
            have HM2 := Lib.hid hm
            have HY8 := Lib.hid hY8
            clear hm hY8 q0 q1 q2
            rw [HY8.out]
            go_wp2_with fail
            go_roundw
            case rel => exact ⟨_, _, _, _, HM2⟩
            case measure =>
              have h1 := HM2.out.app.pst.ahead
              have h2 := HAH7.out
              have h3 := HL8.out
              have h4 := Nd.count_pos x8
              rw [h1, h2]; omega
          | false =>
            rw [hi] at he
            subst he
            have HE7 := Lib.hid (HR7.out.out hi)
            have AI7 := Lib.hid (AR7.out.kept k1)
            have HC7 := Lib.hid HR7.out.cnt
            have HM := Lib.hid (show ks7.length + 1 ≤ 60000 by have := map_fst_len ks7; have := HC7.out; have := HKM.out; omega)
            clear hi k1
            go_wp2_with fail
            refine (take_l [⟨#[125]⟩] (ty := 9) AI7.out.pst (by first | rfl | simp) rfl rfl (by decide) (by decide +kernel)).mono ?_
            rintro e w9 (⟨t9, r9, h1, h2, rfl, h4, h5, h6⟩ | ⟨q, hb, rfl, ho⟩)
            rotate_left
            · have HH := Lib.hid (show Ps.class1 F l = .bad q ∧ Only (· = p.B) w w9 from ⟨by simp only [HE7.out, hb, Ps.O.bind_ok, Ps.O.bind_bad, eq_self, if_true, Bool.false_eq_true, if_false], AI7.out.only.trans ho⟩)
              clear hb ho
              go_wp2_with fail
              exact ⟨rfl, .inr ⟨_, HH.out.1, rfl, HH.out.2⟩⟩
            have HE9 := Lib.hid h1
            have HT9 := Lib.hid h6
            have HL9 := Lib.hid (show r9.length + 1 = (r7).length by rw [h2]; rfl)
            have AI9 := Lib.hid (AI7.out.call h5 h4)
            clear h1 h2 h4 h5 h6
            obtain ⟨⟨z0, z1, z2, z3, z4, z5⟩, g0, g1, g2, g3, g4, g5⟩ := nd_six AI9.out.box
            obtain ⟨⟨y0, y1, y2, y3, y4, y5⟩, f0, f1, f2, f3, f4, f5⟩ := nd_six AI9.out.res
            go_wp2_with fail
            refine AI9.out.end (y := Ps.nd 2 t2.text Ps.e0 0 (ks7.map (·.1))) (by rfl) rfl rfl ⟨rfl, rfl, rfl, rfl, rfl⟩ (by simp only [HE7.out, HE9.out, Ps.O.bind_ok, Ps.O.bind_bad, eq_self, if_true, Bool.false_eq_true, if_false]) rfl (nd_ok1 _ _ _ _ _ (by decide) HT2.out.2.1 e0_size (by decide)) ?_
            have := HL1.out; have := HL2.out; have := HL9.out; have := HC7.out
            rw [count_nd]; omega

set_option maxHeartbeats 1000000 in
theorem program_c (hF : FamC p F k) (l : List Lx.T) (w : World) (hk : l.length ≤ k + 1) (hp : Pst p l w) : Calls Tryz.prog 24 #[.pointer (some ⟨p.B, 0, none⟩)] w (NodePost p l (Ps.program F l) w) := by
  obtain ⟨W0, hW0⟩ : ∃ W0, w.alloc (.cells pzN nT) = W0 := ⟨_, rfl⟩
  have k0 : Kept w W0 := by rw [← hW0]; exact (Kept.refl w).alloc _
  have HZ0 := Lib.hid (show w.heap.size + 1 ≤ W0.heap.size by rw [← hW0]; simp)
  have HB0 := Lib.hid (show Blk W0 w.heap.size nT pzN by rw [← hW0]; exact Blk.new _ _ _)
  have HP0 := Lib.hid (hp.kept k0)
  have HN := Lib.hid hp.lt
  have HO0 := Lib.hid (show Only (· = p.B) w W0 from Only.of_kept k0)
  have HKM := Lib.hid (show l.length ≤ 30000 from HP0.out.len)
  obtain ⟨V0, hV0⟩ : ∃ V, W0.alloc (.cells (ndA (Ps.nd 1 Ps.e0 Ps.e0 0 []) (.slice none 0 0)) nT) = V := ⟨_, rfl⟩
  have AI0 := Lib.hid (AppI.new (x := Ps.nd 1 Ps.e0 Ps.e0 0 []) (KRow.nil _ _) HB0.out HN.out HP0.out HO0.out rfl hV0)
  have HV0 := Lib.hid (show W0.alloc (.cells #[.int .i64 1, .string Ps.e0, .string Ps.e0, .string Ps.e0, .int .i64 0, .slice none 0 0] nT) = V0 from hV0)
  clear hV0
  have HW0 := Lib.hid hW0
  have HKL := Lib.hid hk
  clear hp k0 hW0 hk
  have hf1 := field_tok1
  have hf2 := field_tok2
  go_enter Tryz.func24, Tryz.ntmps24
  go_wp2_with (first | rw [HW0.out] | rw [HV0.out])
  have HM1 := Lib.hid (show ManyI p w W0.heap.size (Ps.nd 1 Ps.e0 Ps.e0 0 []) ⟨#[99, 108, 97, 115, 115]⟩ (Ps.class1 F) (Ps.program F l) (fun ks r => (Ps.take [⟨#[109, 97, 105, 110]⟩] r).bind fun _ r => (F .block r).bind fun b r => .ok (Ps.nd 1 Ps.e0 Ps.e0 0 (ks ++ [b])) r) (l.length) (none) (0) ([]) l V0 from ⟨AI0.out, ⟨_, Nat.le_refl _, by rw [Ps.program]; rfl⟩, by show Nd.countL [] + _ ≤ _; rw [Nd.countL_nil]; omega⟩)
  go_loopw [] (fun wr => ∃ ks r va vc, Hid (ManyI p w W0.heap.size (Ps.nd 1 Ps.e0 Ps.e0 0 []) ⟨#[99, 108, 97, 115, 115]⟩ (Ps.class1 F) (Ps.program F l) (fun ks r => (Ps.take [⟨#[109, 97, 105, 110]⟩] r).bind fun _ r => (F .block r).bind fun b r => .ok (Ps.nd 1 Ps.e0 Ps.e0 0 (ks ++ [b])) r) (l.length) va vc ks r wr)) (fun wr => ahead p wr)
  case atStart => exact ⟨_, _, _, _, HM1⟩
  case round =>
    obtain ⟨ks1, r1, va1, vc1, HR1⟩ := hrel
    have AR1 := Lib.hid HR1.out.app
    go_wp2_with fail
    refine (is_l [⟨#[99, 108, 97, 115, 115]⟩] (ty := 9) AR1.out.pst rfl rfl rfl (by decide)).mono ?_
    rintro e w1 ⟨he, k1⟩
    cases hi : Ps.is [⟨#[99, 108, 97, 115, 115]⟩] r1 with
    | true =>
      rw [hi] at he
      subst he
      have HI1 := Lib.hid hi
      have AS1 := Lib.hid (AR1.out.kept k1)
      have HC1 := Lib.hid HR1.out.cnt
      have HM := Lib.hid (show ks1.length + 1 ≤ 60000 by have := map_fst_len ks1; have := HC1.out; have := HKM.out; omega)
      have HAH1 := Lib.hid AR1.out.pst.ahead
      clear hi k1
      go_wp2_with fail
      refine wp_region_till (S := (fun W => W.cell? ⟨W0.heap.size, 5, none⟩ = some (.slice va1 ks1.length vc1))) 7 (by kernel_rfl) (AS1.out.drew.cell5) (fun hHeld0 => ?_)
      refine wpAnyT_take (i := 0) (v := ?_) rfl (by kernel_rfl) (by kernel_rfl) (by kernel_rfl) (fun _ _ _ h => h) (Or.inl ⟨by kernel_rfl, ?_⟩) (by assumption) ?_
      rotate_left
      · intro w hSw; (try dsimp only at hSw); go_simp; (try with_reducible rfl)
      (try simp only [Act.put, List.getElem_toArray, List.getElem_cons_zero, List.getElem_cons_succ, List.setIfInBounds_toArray, List.set_cons_zero, List.set_cons_succ])
      refine wpAnyT_take (i := 1) (v := ?_) rfl (by kernel_rfl) (by kernel_rfl) (by kernel_rfl) (fun _ _ _ h => h) (Or.inl ⟨by kernel_rfl, ?_⟩) (by assumption) ?_
      rotate_left
      · intro w hSw; (try dsimp only at hSw); go_simp; (try with_reducible rfl)
      (try simp only [Act.put, List.getElem_toArray, List.getElem_cons_zero, List.getElem_cons_succ, List.setIfInBounds_toArray, List.set_cons_zero, List.set_cons_succ])
      refine wpAnyT_take (i := 2) (v := ?_) rfl (by kernel_rfl) (by kernel_rfl) (by kernel_rfl) (fun _ _ _ h => h) (Or.inl ⟨by kernel_rfl, ?_⟩) (by assumption) ?_
      rotate_left
      · intro w hSw; (try dsimp only at hSw); go_simp; (try with_reducible rfl)
      (try simp only [Act.put, List.getElem_toArray, List.getElem_cons_zero, List.getElem_cons_succ, List.setIfInBounds_toArray, List.set_cons_zero, List.set_cons_succ])
      refine wpAnyT_ready (rs := [3]) (by kernel_rfl) (by simp) ?_
      refine AllReadyT.cons rfl (fun K hK => ?_) AllReadyT.nil
      go_simp
      refine ((pclass_c hF r1 _ (by have := HC1.out; have := HKL.out; omega) AS1.out.pst.drew)).mono ?_
      rintro e w2 (⟨x2, ks2, r2, v2, h1, rfl, hx, hk, h4, h5, hok, h7⟩ | ⟨q, hb, rfl, ho⟩)
      rotate_left
      · have HH := Lib.hid (show Ps.program F l = .bad q ∧ Only (· = p.B) w w2 from ⟨by simp only [HR1.out.bad HI1.out hb, hb, Ps.O.bind_ok, Ps.O.bind_bad, eq_self, if_true, Bool.false_eq_true, if_false], AS1.out.drew.only.trans ho⟩)
        clear hb ho
        exact ⟨rfl, .inr ⟨_, HH.out.1, rfl, HH.out.2⟩⟩
      have HE2 := Lib.hid h1
      have HX2 := Lib.hid (And.intro hx hok)
      have HL2 := Lib.hid h7
      obtain ⟨ai2, hs2, h22⟩ := AS1.out.drew.asks h5 h4 hx hk hok
      refine hK.out _ _ ((AS1.out.drew.call h5 h4).cell5) (fun hHeld1 => ?_)
      clear hK K
      (try simp only [Act.put, List.getElem_toArray, List.getElem_cons_zero, List.getElem_cons_succ, List.setIfInBounds_toArray, List.set_cons_zero, List.set_cons_succ])
      refine wpAnyT_ready (rs := [4]) (by kernel_rfl) (by simp) ?_
      refine AllReadyT.cons rfl (fun K hK => ?_) AllReadyT.nil
      go_simp
      refine hK.out _ _ ai2.cell5 (fun hHeld2 => ?_)
      clear hK K
      (try simp only [Act.put, List.getElem_toArray, List.getElem_cons_zero, List.getElem_cons_succ, List.setIfInBounds_toArray, List.set_cons_zero, List.set_cons_succ])
      have AJ2 := Lib.hid ai2
      have HS2 := Lib.hid hs2
      have H22 := Lib.hid h22
      clear ai2 hs2 h22 h1 hx hk h4 h5 hok h7 hHeld0 hHeld1
      refine wpAnyT_ready (rs := [5]) (by kernel_rfl) (by simp) ?_
      refine AllReadyT.cons rfl (fun K hK => ?_) AllReadyT.nil
      refine step_nd (k2 := [(x2, v2)]) (.tmp 9) (.tmp 12) rfl rfl rfl AJ2.out.row rfl HS2.out H22.out AJ2.out.size (by first | (simp; done) | (have := HM.out; simp; omega)) ?_
      intro ka2 kc2 wa2 hr ho hl
      obtain ⟨q0, q1, q2⟩ := AJ2.out.more hr ho hl
      refine hK.out _ _ q0 (fun hHeld3 => ?_)
      clear hK K
      (try simp only [Act.put, List.getElem_toArray, List.getElem_cons_zero, List.getElem_cons_succ, List.setIfInBounds_toArray, List.set_cons_zero, List.set_cons_succ])
      refine wpAnyT_take (i := 6) (v := ?_) rfl (by kernel_rfl) (by kernel_rfl) (by kernel_rfl) (fun _ _ _ h => h) (Or.inl ⟨by kernel_rfl, ?_⟩) (by assumption) ?_
      rotate_left
      · intro w hSw; (try dsimp only at hSw); go_simp; (try with_reducible rfl)
      (try simp only [Act.put, List.getElem_toArray, List.getElem_cons_zero, List.getElem_cons_succ, List.setIfInBounds_toArray, List.set_cons_zero, List.set_cons_succ])
      clear hr ho hl hHeld2 hHeld3
      refine wpAnyT_ready (rs := [7]) (by kernel_rfl) (by simp) ?_
      refine AllReadyT.fin rfl (fun K hK => ?_)
      go_simp
      refine hK.out _ _ ?_
      clear hK K
      (try simp only [Act.put, List.getElem_toArray, List.getElem_cons_zero, List.getElem_cons_succ, List.setIfInBounds_toArray, List.set_cons_zero, List.set_cons_succ])
      refine wpAnyT_done (by kernel_rfl) ?_ _
      have hm := HR1.out.ok HI1.out HE2.out HL2.out (show ks1.length + [(x2, v2)].length = ks1.length + 1 from rfl) q2
      obtain ⟨Y2, hY2⟩ : ∃ Y, wa2.setCell ⟨W0.heap.size, 5, none⟩ (.slice ka2 (ks1.length + 1) kc2) = Y := ⟨_, rfl⟩
      rw [show wa2.setCell ⟨W0.heap.size, 5, none⟩ (.slice ka2 (ks1.length + [(x2, v2)].length) kc2) = Y2 from hY2] at hm
      have HM2 := Lib.hid hm
      have HY2 := Lib.hid hY2
      clear hm hY2 q0 q1 q2
      rw [HY2.out]
      go_wp2_with fail
      go_roundw
      case rel => exact ⟨_, _, _, _, HM2⟩
      case measure =>
        have h1 := HM2.out.app.pst.ahead
        have h2 := HAH1.out
        have h3 := HL2.out
        have h4 := Nd.count_pos x2
        rw [h1, h2]; omega
    | false =>
    rw [hi] at he
    subst he
    have HE1 := Lib.hid (HR1.out.out hi)
    have AI1 := Lib.hid (AR1.out.kept k1)
    have HC1 := Lib.hid HR1.out.cnt
    have HM := Lib.hid (show ks1.length + 1 ≤ 60000 by have := map_fst_len ks1; have := HC1.out; have := HKM.out; omega)
    clear hi k1
    go_wp2_with fail
    refine (take_l [⟨#[109, 97, 105, 110]⟩] (ty := 9) AI1.out.pst (by first | rfl | simp) rfl rfl (by decide) (by decide +kernel)).mono ?_
    rintro e w3 (⟨t3, r3, h1, h2, rfl, h4, h5, h6⟩ | ⟨q, hb, rfl, ho⟩)
    rotate_left
    · have HH := Lib.hid (show Ps.program F l = .bad q ∧ Only (· = p.B) w w3 from ⟨by simp only [HE1.out, hb, Ps.O.bind_ok, Ps.O.bind_bad, eq_self, if_true, Bool.false_eq_true, if_false], AI1.out.only.trans ho⟩)
      clear hb ho
      go_wp2_with fail
      exact ⟨rfl, .inr ⟨_, HH.out.1, rfl, HH.out.2⟩⟩
    have HE3 := Lib.hid h1
    have HT3 := Lib.hid h6
    have HL3 := Lib.hid (show r3.length + 1 = (r1).length by rw [h2]; rfl)
    have AI3 := Lib.hid (AI1.out.call h5 h4)
    clear h1 h2 h4 h5 h6
    go_wp2_with fail
    refine wp_region_till (S := (fun W => W.cell? ⟨W0.heap.size, 5, none⟩ = some (.slice va1 ks1.length vc1))) 7 (by kernel_rfl) (AI3.out.drew.cell5) (fun hHeld0 => ?_)
    refine wpAnyT_take (i := 0) (v := ?_) rfl (by kernel_rfl) (by kernel_rfl) (by kernel_rfl) (fun _ _ _ h => h) (Or.inl ⟨by kernel_rfl, ?_⟩) (by assumption) ?_
    rotate_left
    · intro w hSw; (try dsimp only at hSw); go_simp; (try with_reducible rfl)
    (try simp only [Act.put, List.getElem_toArray, List.getElem_cons_zero, List.getElem_cons_succ, List.setIfInBounds_toArray, List.set_cons_zero, List.set_cons_succ])
    refine wpAnyT_take (i := 1) (v := ?_) rfl (by kernel_rfl) (by kernel_rfl) (by kernel_rfl) (fun _ _ _ h => h) (Or.inl ⟨by kernel_rfl, ?_⟩) (by assumption) ?_
    rotate_left
    · intro w hSw; (try dsimp only at hSw); go_simp; (try with_reducible rfl)
    (try simp only [Act.put, List.getElem_toArray, List.getElem_cons_zero, List.getElem_cons_succ, List.setIfInBounds_toArray, List.set_cons_zero, List.set_cons_succ])
    refine wpAnyT_take (i := 2) (v := ?_) rfl (by kernel_rfl) (by kernel_rfl) (by kernel_rfl) (fun _ _ _ h => h) (Or.inl ⟨by kernel_rfl, ?_⟩) (by assumption) ?_
    rotate_left
    · intro w hSw; (try dsimp only at hSw); go_simp; (try with_reducible rfl)
    (try simp only [Act.put, List.getElem_toArray, List.getElem_cons_zero, List.getElem_cons_succ, List.setIfInBounds_toArray, List.set_cons_zero, List.set_cons_succ])
    refine wpAnyT_ready (rs := [3]) (by kernel_rfl) (by simp) ?_
    refine AllReadyT.cons rfl (fun K hK => ?_) AllReadyT.nil
    go_simp
    refine ((hF.block r3 _ (by have := HL3.out; have := HC1.out; have := HKL.out; omega) AI3.out.pst.drew)).mono ?_
    rintro e w4 (⟨x4, ks4, r4, v4, h1, rfl, hx, hk, h4, h5, hok, h7⟩ | ⟨q, hb, rfl, ho⟩)
    rotate_left
    · have HH := Lib.hid (show Ps.program F l = .bad q ∧ Only (· = p.B) w w4 from ⟨by simp only [HE1.out, HE3.out, hb, Ps.O.bind_ok, Ps.O.bind_bad, eq_self, if_true, Bool.false_eq_true, if_false], AI3.out.drew.only.trans ho⟩)
      clear hb ho
      exact ⟨rfl, .inr ⟨_, HH.out.1, rfl, HH.out.2⟩⟩
    have HE4 := Lib.hid h1
    have HX4 := Lib.hid (And.intro hx hok)
    have HL4 := Lib.hid h7
    obtain ⟨ai4, hs4, h24⟩ := AI3.out.drew.asks h5 h4 hx hk hok
    refine hK.out _ _ ((AI3.out.drew.call h5 h4).cell5) (fun hHeld1 => ?_)
    clear hK K
    (try simp only [Act.put, List.getElem_toArray, List.getElem_cons_zero, List.getElem_cons_succ, List.setIfInBounds_toArray, List.set_cons_zero, List.set_cons_succ])
    refine wpAnyT_ready (rs := [4]) (by kernel_rfl) (by simp) ?_
    refine AllReadyT.cons rfl (fun K hK => ?_) AllReadyT.nil
    go_simp
    refine hK.out _ _ ai4.cell5 (fun hHeld2 => ?_)
    clear hK K
    (try simp only [Act.put, List.getElem_toArray, List.getElem_cons_zero, List.getElem_cons_succ, List.setIfInBounds_toArray, List.set_cons_zero, List.set_cons_succ])
    have AJ4 := Lib.hid ai4
    have HS4 := Lib.hid hs4
    have H24 := Lib.hid h24
    clear ai4 hs4 h24 h1 hx hk h4 h5 hok h7 hHeld0 hHeld1
    refine wpAnyT_ready (rs := [5]) (by kernel_rfl) (by simp) ?_
    refine AllReadyT.cons rfl (fun K hK => ?_) AllReadyT.nil
    refine step_nd (k2 := [(x4, v4)]) (.tmp 19) (.tmp 22) rfl rfl rfl AJ4.out.row rfl HS4.out H24.out AJ4.out.size (by first | (simp; done) | (have := HM.out; simp; omega)) ?_
    intro ka4 kc4 wa4 hr ho hl
    obtain ⟨q0, q1, q2⟩ := AJ4.out.more hr ho hl
    refine hK.out _ _ q0 (fun hHeld3 => ?_)
    clear hK K
    (try simp only [Act.put, List.getElem_toArray, List.getElem_cons_zero, List.getElem_cons_succ, List.setIfInBounds_toArray, List.set_cons_zero, List.set_cons_succ])
    refine wpAnyT_take (i := 6) (v := ?_) rfl (by kernel_rfl) (by kernel_rfl) (by kernel_rfl) (fun _ _ _ h => h) (Or.inl ⟨by kernel_rfl, ?_⟩) (by assumption) ?_
    rotate_left
    · intro w hSw; (try dsimp only at hSw); go_simp; (try with_reducible rfl)
    (try simp only [Act.put, List.getElem_toArray, List.getElem_cons_zero, List.getElem_cons_succ, List.setIfInBounds_toArray, List.set_cons_zero, List.set_cons_succ])
    clear hr ho hl hHeld2 hHeld3
    refine wpAnyT_ready (rs := [7]) (by kernel_rfl) (by simp) ?_
    refine AllReadyT.fin rfl (fun K hK => ?_)
    go_simp
    refine hK.out _ _ ?_
    clear hK K
    (try simp only [Act.put, List.getElem_toArray, List.getElem_cons_zero, List.getElem_cons_succ, List.setIfInBounds_toArray, List.set_cons_zero, List.set_cons_succ])
    refine wpAnyT_done (by kernel_rfl) ?_ _
    have AI5 := Lib.hid q2
    obtain ⟨W7, hW7⟩ : ∃ W7, wa4.setCell ⟨W0.heap.size, 5, none⟩ (.slice ka4 (ks1.length + 1) kc4) = W7 := ⟨_, rfl⟩
    rw [show wa4.setCell ⟨W0.heap.size, 5, none⟩ (.slice ka4 (ks1.length + [(x4, v4)].length) kc4) = W7 from hW7] at AI5
    obtain ⟨⟨z0, z1, z2, z3, z4, z5⟩, _⟩ := nd_six AI5.out.box
    obtain ⟨⟨y0, y1, y2, y3, y4, y5⟩, f0, f1, f2, f3, f4, f5⟩ := nd_six AI5.out.res
    have HW7 := Lib.hid hW7
    clear hW7 q0 q1 q2
    rw [HW7.out]
    go_wp2_with fail
    refine AI5.out.end (y := Ps.nd 1 Ps.e0 Ps.e0 0 (ks1.map (·.1) ++ [x4])) (by rfl) rfl rfl ⟨rfl, rfl, rfl, rfl, rfl⟩ (by simp only [HE1.out, HE3.out, HE4.out, Ps.O.bind_ok, Ps.O.bind_bad, eq_self, if_true, Bool.false_eq_true, if_false]) (by rw [List.map_append]; rfl) (nd_ok1 _ _ _ _ _ (by decide) e0_size e0_size (by decide)) ?_
    have := HL3.out; have := HL4.out; have := HC1.out
    rw [count_nd, countL_snoc]; omega
end
end Go.Proofs.YtfkmnpgpfmkjaaaGreatDoor
namespace Go.Proofs.YtfkmnpgpfmkjaaaGreatDoor
open Go.ChangeShapes Go.WideShapes Go.ChangeAt Go.RowKit
attribute [local go_sem] Oper.semAt_some
open Ps (O W)

section
variable {p : PP} {F : Ps.Fam} {k : Nat}
set_option maxHeartbeats 1000000 in
theorem block_c (hF : FamC p F k) (l : List Lx.T) (w : World) (hk : l.length ≤ k + 1) (hp : Pst p l w) : Calls Tryz.prog 39 #[.pointer (some ⟨p.B, 0, none⟩)] w (NodePost p l (Ps.block F l) w) := by
  obtain ⟨W0, hW0⟩ : ∃ W0, w.alloc (.cells pzN nT) = W0 := ⟨_, rfl⟩
  have k0 : Kept w W0 := by rw [← hW0]; exact (Kept.refl w).alloc _
  have HZ0 := Lib.hid (show w.heap.size + 1 ≤ W0.heap.size by rw [← hW0]; simp)
  have HB0 := Lib.hid (show Blk W0 w.heap.size nT pzN by rw [← hW0]; exact Blk.new _ _ _)
  have HP0 := Lib.hid (hp.kept k0)
  have HN := Lib.hid hp.lt
  have HO0 := Lib.hid (show Only (· = p.B) w W0 from Only.of_kept k0)
  have HKM := Lib.hid (show l.length ≤ 30000 from hp.len)
  obtain ⟨V0, hV0⟩ : ∃ V, W0.alloc (.cells (ndA (Ps.nd 6 Ps.e0 Ps.e0 0 []) (.slice none 0 0)) nT) = V := ⟨_, rfl⟩
  have AI0 := Lib.hid (AppI.new (x := Ps.nd 6 Ps.e0 Ps.e0 0 []) (KRow.nil _ _) HB0.out HN.out HP0.out HO0.out rfl hV0)
  have HV0 := Lib.hid (show W0.alloc (.cells #[.int .i64 6, .string Ps.e0, .string Ps.e0, .string Ps.e0, .int .i64 0, .slice none 0 0] nT) = V0 from hV0)
  clear hV0
  have HW0 := Lib.hid hW0
  have HKL := Lib.hid hk
  clear hp k0 hW0 hk
  have hf1 := field_tok1
  have hf2 := field_tok2
  go_enter Tryz.func39, Tryz.ntmps39
  go_wp2_with (first | rw [HW0.out] | rw [HV0.out])
  refine (take_l [⟨#[123]⟩] (ty := 9) AI0.out.pst (by first | rfl | simp) rfl rfl (by decide) (by decide +kernel)).mono ?_
  rintro e w1 (⟨t1, r1, h1, h2, rfl, h4, h5, h6⟩ | ⟨q, hb, rfl, ho⟩)
  rotate_left
  · have HH := Lib.hid (show Ps.block F l = .bad q ∧ Only (· = p.B) w w1 from ⟨by simp only [Ps.block, hb, Ps.O.bind_ok, Ps.O.bind_bad, eq_self, if_true, Bool.false_eq_true, if_false], AI0.out.only.trans ho⟩)
    clear hb ho
    go_wp2_with fail
    exact ⟨rfl, .inr ⟨_, HH.out.1, rfl, HH.out.2⟩⟩
  have HE1 := Lib.hid h1
  have HT1 := Lib.hid h6
  have HL1 := Lib.hid (show r1.length + 1 = (l).length by rw [h2]; rfl)
  have AI1 := Lib.hid (AI0.out.call h5 h4)
  clear h1 h2 h4 h5 h6
  go_wp2_with fail
  have HM1 := Lib.hid (show BlkI p F w W0.heap.size (Ps.nd 6 Ps.e0 Ps.e0 0 []) (Ps.block F l) l.length none 0 [] r1 w1 from ⟨AI1.out, ⟨_, Nat.le_refl _, by simp only [Ps.block, HE1.out, Ps.O.bind_ok]; rfl⟩, by show Nd.countL [] + _ + 1 ≤ _; rw [Nd.countL_nil]; have := HL1.out; omega⟩)
  go_loopw [] (fun wr => ∃ ks r va vc, Hid (BlkI p F w W0.heap.size (Ps.nd 6 Ps.e0 Ps.e0 0 []) (Ps.block F l) l.length va vc ks r wr)) (fun wr => ahead p wr)
  case atStart => exact ⟨_, _, _, _, HM1⟩
  case round =>
    obtain ⟨ks2, r2, va2, vc2, HR2⟩ := hrel
    have AR2 := Lib.hid HR2.out.app
    have HC2 := Lib.hid HR2.out.cnt
    have HM := Lib.hid (show ks2.length + 1 ≤ 60000 by have := map_fst_len ks2; have := HC2.out; have := HKM.out; omega)
    go_wp2_with fail
    refine (is_l [Ps.kRight] (ty := 9) AR2.out.pst rfl rfl rfl (by decide)).mono ?_
    rintro e w2 ⟨he, k1⟩
    cases hi : Ps.is [Ps.kRight] r2 with
    | true =>
      rw [hi] at he
      subst he
      have HI2 := Lib.hid hi
      have AS2 := Lib.hid (AR2.out.kept k1)
      clear hi k1
      go_wp2_with fail
      refine (take_l [Ps.kRight] (ty := 9) AS2.out.pst (by first | rfl | simp) rfl rfl (by decide) (by decide +kernel)).mono ?_
      rintro e w3 (⟨t3, r3, h1, h2, rfl, h4, h5, h6⟩ | ⟨q, hb, rfl, ho⟩)
      rotate_left
      · exact (take_is HI2.out AS2.out.len.1 hb).elim
      have AI3 := Lib.hid (AS2.out.call h5 h4)
      have HE3 := Lib.hid (show Ps.block F l = .ok (Ps.nd 6 Ps.e0 Ps.e0 0 (ks2.map (·.1))) r3 by rw [HR2.out.out HI2.out, (take_ok h1).2])
      have HL3 := Lib.hid (show r3.length + 1 = r2.length by rw [h2]; rfl)
      clear h1 h2 h4 h5 h6
      obtain ⟨⟨z0, z1, z2, z3, z4, z5⟩, g0, g1, g2, g3, g4, g5⟩ := nd_six AI3.out.box
      obtain ⟨⟨y0, y1, y2, y3, y4, y5⟩, f0, f1, f2, f3, f4, f5⟩ := nd_six AI3.out.res
      go_wp2_with fail
      refine AI3.out.end (y := Ps.nd 6 Ps.e0 Ps.e0 0 (ks2.map (·.1))) (by rfl) rfl rfl ⟨rfl, rfl, rfl, rfl, rfl⟩ HE3.out rfl (nd_ok1 _ _ _ _ _ (by decide) e0_size e0_size (by decide)) ?_
      have := HL3.out; have := HC2.out
      rw [count_nd]; omega
    | false =>
      rw [hi] at he
      subst he
      have HI2 := Lib.hid hi
      have AS2 := Lib.hid (AR2.out.kept k1)
      have HAH2 := Lib.hid AR2.out.pst.ahead
      clear hi k1
      go_wp2_with fail
      refine wp_region_till (S := (fun W => W.cell? ⟨W0.heap.size, 5, none⟩ = some (.slice va2 ks2.length vc2))) 7 (by kernel_rfl) (AS2.out.drew.cell5) (fun hHeld0 => ?_)
      refine wpAnyT_take (i := 0) (v := ?_) rfl (by kernel_rfl) (by kernel_rfl) (by kernel_rfl) (fun _ _ _ h => h) (Or.inl ⟨by kernel_rfl, ?_⟩) (by assumption) ?_
      rotate_left
      · intro w hSw; (try dsimp only at hSw); go_simp; (try with_reducible rfl)
      (try simp only [Act.put, List.getElem_toArray, List.getElem_cons_zero, List.getElem_cons_succ, List.setIfInBounds_toArray, List.set_cons_zero, List.set_cons_succ])
      refine wpAnyT_take (i := 1) (v := ?_) rfl (by kernel_rfl) (by kernel_rfl) (by kernel_rfl) (fun _ _ _ h => h) (Or.inl ⟨by kernel_rfl, ?_⟩) (by assumption) ?_
      rotate_left
      · intro w hSw; (try dsimp only at hSw); go_simp; (try with_reducible rfl)
      (try simp only [Act.put, List.getElem_toArray, List.getElem_cons_zero, List.getElem_cons_succ, List.setIfInBounds_toArray, List.set_cons_zero, List.set_cons_succ])
      refine wpAnyT_take (i := 2) (v := ?_) rfl (by kernel_rfl) (by kernel_rfl) (by kernel_rfl) (fun _ _ _ h => h) (Or.inl ⟨by kernel_rfl, ?_⟩) (by assumption) ?_
      rotate_left
      · intro w hSw; (try dsimp only at hSw); go_simp; (try with_reducible rfl)
      (try simp only [Act.put, List.getElem_toArray, List.getElem_cons_zero, List.getElem_cons_succ, List.setIfInBounds_toArray, List.set_cons_zero, List.set_cons_succ])
      refine wpAnyT_ready (rs := [3]) (by kernel_rfl) (by simp) ?_
      refine AllReadyT.cons rfl (fun K hK => ?_) AllReadyT.nil
      go_simp
      refine ((entry_c hF r2 _ (by have := HC2.out; have := HKL.out; omega) AS2.out.pst.drew)).mono ?_
      rintro e w3 (⟨x3, ks3, r3, v3, h1, rfl, hx, hk, h4, h5, hok, h7⟩ | ⟨q, hb, rfl, ho⟩)
      rotate_left
      · have HH := Lib.hid (show Ps.block F l = .bad q ∧ Only (· = p.B) w w3 from ⟨by simp only [HR2.out.bad HI2.out hb, hb, Ps.O.bind_ok, Ps.O.bind_bad, eq_self, if_true, Bool.false_eq_true, if_false], AS2.out.drew.only.trans ho⟩)
        clear hb ho
        exact ⟨rfl, .inr ⟨_, HH.out.1, rfl, HH.out.2⟩⟩
      have HE3 := Lib.hid h1
      have HX3 := Lib.hid (And.intro hx hok)
      have HL3 := Lib.hid h7
      obtain ⟨ai3, hs3, h23⟩ := AS2.out.drew.asks h5 h4 hx hk hok
      refine hK.out _ _ ((AS2.out.drew.call h5 h4).cell5) (fun hHeld1 => ?_)
      clear hK K
      (try simp only [Act.put, List.getElem_toArray, List.getElem_cons_zero, List.getElem_cons_succ, List.setIfInBounds_toArray, List.set_cons_zero, List.set_cons_succ])
      refine wpAnyT_ready (rs := [4]) (by kernel_rfl) (by simp) ?_
      refine AllReadyT.cons rfl (fun K hK => ?_) AllReadyT.nil
      go_simp
      refine hK.out _ _ ai3.cell5 (fun hHeld2 => ?_)
      clear hK K
      (try simp only [Act.put, List.getElem_toArray, List.getElem_cons_zero, List.getElem_cons_succ, List.setIfInBounds_toArray, List.set_cons_zero, List.set_cons_succ])
      have AJ3 := Lib.hid ai3
      have HS3 := Lib.hid hs3
      have H23 := Lib.hid h23
      clear ai3 hs3 h23 h1 hx hk h4 h5 hok h7 hHeld0 hHeld1
      refine wpAnyT_ready (rs := [5]) (by kernel_rfl) (by simp) ?_
      refine AllReadyT.cons rfl (fun K hK => ?_) AllReadyT.nil
      refine step_nd (k2 := [(x3, v3)]) (.tmp 13) (.tmp 16) rfl rfl rfl AJ3.out.row rfl HS3.out H23.out AJ3.out.size (by first | (simp; done) | (have := HM.out; simp; omega)) ?_
      intro ka3 kc3 wa3 hr ho hl
      obtain ⟨q0, q1, q2⟩ := AJ3.out.more hr ho hl
      refine hK.out _ _ q0 (fun hHeld3 => ?_)
      clear hK K
      (try simp only [Act.put, List.getElem_toArray, List.getElem_cons_zero, List.getElem_cons_succ, List.setIfInBounds_toArray, List.set_cons_zero, List.set_cons_succ])
      refine wpAnyT_take (i := 6) (v := ?_) rfl (by kernel_rfl) (by kernel_rfl) (by kernel_rfl) (fun _ _ _ h => h) (Or.inl ⟨by kernel_rfl, ?_⟩) (by assumption) ?_
      rotate_left
      · intro w hSw; (try dsimp only at hSw); go_simp; (try with_reducible rfl)
      (try simp only [Act.put, List.getElem_toArray, List.getElem_cons_zero, List.getElem_cons_succ, List.setIfInBounds_toArray, List.set_cons_zero, List.set_cons_succ])
      clear hr ho hl hHeld2 hHeld3
      refine wpAnyT_ready (rs := [7]) (by kernel_rfl) (by simp) ?_
      refine AllReadyT.fin rfl (fun K hK => ?_)
      go_simp
      refine hK.out _ _ ?_
      clear hK K
      (try simp only [Act.put, List.getElem_toArray, List.getElem_cons_zero, List.getElem_cons_succ, List.setIfInBounds_toArray, List.set_cons_zero, List.set_cons_succ])
      refine wpAnyT_done (by kernel_rfl) ?_ _
      have HOK := Lib.hid (HR2.out.ok (u := v3) HI2.out HE3.out HL3.out)
      obtain ⟨Y3, hY3⟩ : ∃ Y, wa3.setCell ⟨W0.heap.size, 5, none⟩ (.slice ka3 (ks2.length + 1) kc3) = Y := ⟨_, rfl⟩
      rw [show wa3.setCell ⟨W0.heap.size, 5, none⟩ (.slice ka3 (ks2.length + [(x3, v3)].length) kc3) = Y3 from hY3] at q2
      have AI4 := Lib.hid q2
      have HY3 := Lib.hid hY3
      clear hY3 q0 q1 q2
      rw [HY3.out]
      go_wp2_with fail
      refine (pskip_c Ps.kSemi r3 _ AI4.out.pst (by decide +kernel)).mono ?_
      rintro e w5 (⟨h1, rfl, h2, h3, h4⟩ | ⟨h1, rfl, h2, h3⟩)
      · have HM2 := Lib.hid (HOK.out.1 h1 h4 (AI4.out.call h3 h2))
        have HL4 := Lib.hid h4
        clear h1 h2 h3 h4
        go_wp2_with fail
        go_roundw
        case rel => exact ⟨_, _, _, _, HM2⟩
        case measure =>
          have h1 := HM2.out.app.pst.ahead
          have h2 := HAH2.out
          have h3 := HL3.out
          have h4 := HL4.out
          rw [h1, h2]; omega
      · have HE4 := Lib.hid (HOK.out.2.1 h1)
        have HC4 := Lib.hid HOK.out.2.2
        have AI5 := Lib.hid (AI4.out.call h3 h2)
        clear h1 h2 h3
        go_wp2_with fail
        refine (take_l [Ps.kRight] (ty := 9) AI5.out.pst (by first | rfl | simp) rfl rfl (by decide) (by decide +kernel)).mono ?_
        rintro e w6 (⟨t6, r6, h1, h2, rfl, h4, h5, h6⟩ | ⟨q, hb, rfl, ho⟩)
        rotate_left
        · have HH := Lib.hid (show Ps.block F l = .bad q ∧ Only (· = p.B) w w6 from ⟨by rw [HE4.out, hb]; rfl, AI5.out.only.trans ho⟩)
          clear hb ho
          go_wp2_with fail
          exact ⟨rfl, .inr ⟨_, HH.out.1, rfl, HH.out.2⟩⟩
        have AI6 := Lib.hid (AI5.out.call h5 h4)
        have HE6 := Lib.hid (show Ps.block F l = .ok (Ps.nd 6 Ps.e0 Ps.e0 0 ((ks2 ++ [(x3, v3)]).map (·.1))) r6 by rw [HE4.out, h1]; rfl)
        have HL6 := Lib.hid (show r6.length + 1 = r3.length by rw [h2]; rfl)
        clear h1 h2 h4 h5 h6
        obtain ⟨⟨z0, z1, z2, z3, z4, z5⟩, g0, g1, g2, g3, g4, g5⟩ := nd_six AI6.out.box
        obtain ⟨⟨y0, y1, y2, y3, y4, y5⟩, f0, f1, f2, f3, f4, f5⟩ := nd_six AI6.out.res
        go_wp2_with fail
        refine AI6.out.end (y := Ps.nd 6 Ps.e0 Ps.e0 0 ((ks2 ++ [(x3, v3)]).map (·.1))) (by rfl) rfl rfl ⟨rfl, rfl, rfl, rfl, rfl⟩ HE6.out rfl (nd_ok1 _ _ _ _ _ (by decide) e0_size e0_size (by decide)) ?_
        have := HL6.out; have := HC4.out
        rw [count_nd]; omega
end
end Go.Proofs.YtfkmnpgpfmkjaaaGreatDoor
namespace Go.Proofs.YtfkmnpgpfmkjaaaGreatDoor
open Go.ChangeShapes Go.WideShapes Go.ChangeAt Go.RowKit
attribute [local go_sem] Oper.semAt_some
open Ps (O W)

section
variable {p : PP} {F : Ps.Fam} {k : Nat}

/-- The map's ways are those of the grammar. -/
structure Ways (p : PP) (F : Ps.Fam) (k : Nat) : Prop where
  some : ∀ t r v, p.f (Ps.srt t) = some v → Ps.srt t ≠ Ps.theEnd ∧ ∃ g way, v = .func (.func g) #[] #[] ∧ (∀ args w, (callFunc g args).run Tryz.prog w = .ok (.enter g args) w) ∧ WayC p k g way ∧ Ps.prim F (t :: r) = way t r
  none : ∀ t r, p.f (Ps.srt t) = none → Ps.prim F (t :: r) = .bad t.pos

theorem way_zero (w : World) : (zeroValue 146).run Tryz.prog w = .ok .nilFunc w := by kernel_rfl
theorem srt_size {t : Lx.T} (h : Ps.tokOk t) : (Ps.srt t).size ≤ maxLen := by
  unfold Ps.srt
  split
  · exact h.2.1
  · split
    · exact h.2.1
    · unfold Ps.srtK
      split
      · decide
      split
      · decide
      split
      · decide
      split
      · decide
      split
      · decide
      split
      · decide
      · decide

set_option maxHeartbeats 2000000 in
theorem prim_c (hW : Ways p F k) (l : List Lx.T) (w : World) (hk : l.length ≤ k + 1) (hp : Pst p l w) : Calls Tryz.prog 151 #[.pointer (some ⟨p.B, 0, none⟩)] w (NodePost p l (Ps.prim F l) w) := by
  obtain ⟨t, r, rfl, htok⟩ := hp.good.cons
  obtain ⟨W0, hW0⟩ : ∃ W0, w.alloc (.cells pzN nT) = W0 := ⟨_, rfl⟩
  have k0 : Kept w W0 := by rw [← hW0]; exact (Kept.refl w).alloc _
  have HZ0 := Lib.hid (show w.heap.size + 1 ≤ W0.heap.size by rw [← hW0]; simp)
  have HB0 := Lib.hid (show Blk W0 w.heap.size nT pzN by rw [← hW0]; exact Blk.new _ _ _)
  have HP0 := Lib.hid (hp.kept k0)
  have HN := Lib.hid hp.lt
  have HO0 := Lib.hid (show Only (· = p.B) w W0 from Only.of_kept k0)
  have HW0 := Lib.hid hW0
  have HKL := Lib.hid (show r.length ≤ k by rw [List.length_cons] at hk; omega)
  have HSZ := Lib.hid (srt_size htok)
  have HS0 := Lib.hid (show W0.drew.cell? ⟨p.B, 1, none⟩ = some (.map (some p.m)) ∧ MapF Tryz.prog 9 p.m 20 p.f W0.drew by
    obtain ⟨ad, c, hb, _⟩ := (hp.kept k0).drew.blk
    exact ⟨hb.cell 1, (hp.kept k0).drew.sta.map⟩)
  clear hp k0 hW0 hk htok
  cases hf : p.f (Ps.srt t) with
  | none =>
    have HL := Lib.hid (fun W (h : MapF Tryz.prog 9 p.m 20 p.f W) => show (Instr.lookup 82 (.map (some p.m)) (.string (Ps.srt t)) true).run Tryz.prog W = .ok (.tuple #[.nilFunc, .bool false]) W by
      have := h.look (Maps.string_keyed (P := Tryz.prog) Tryz.underlying9) Tryz.underlying82 (way_zero W) (Ps.srt t) (WideMaps.keyOf_string_mk Tryz.underlying9 HSZ.out)
      rw [hf] at this
      exact this)
    have HE := Lib.hid (hW.none t r hf)
    clear hf
    go_enter Tryz.func151, Tryz.ntmps151
    go_wp2_with (rw [HW0.out])
    refine wp_region_till (S := (fun W => W.cell? ⟨p.B, 1, none⟩ = some (.map (some p.m)) ∧ MapF Tryz.prog 9 p.m 20 p.f W)) 11 (by kernel_rfl) HS0.out (fun hHeld0 => ?_)
    refine wpAnyT_take (i := 0) (v := ?_) rfl (by kernel_rfl) (by kernel_rfl) (by kernel_rfl) (fun _ _ _ h => h) (Or.inl ⟨by kernel_rfl, ?_⟩) (by assumption) ?_
    rotate_left
    · intro w hSw; (try dsimp only at hSw); go_simp; (try with_reducible rfl)
    (try simp only [Act.put, List.getElem_toArray, List.getElem_cons_zero, List.getElem_cons_succ, List.setIfInBounds_toArray, List.set_cons_zero, List.set_cons_succ])
    refine wpAnyT_take (i := 1) (v := ?_) rfl (by kernel_rfl) (by kernel_rfl) (by kernel_rfl) (fun _ _ _ h => h) (Or.inl ⟨by kernel_rfl, ?_⟩) (by assumption) ?_
    rotate_left
    · intro w hSw; (try dsimp only at hSw); go_simp; (try with_reducible rfl)
    (try simp only [Act.put, List.getElem_toArray, List.getElem_cons_zero, List.getElem_cons_succ, List.setIfInBounds_toArray, List.set_cons_zero, List.set_cons_succ])
    refine wpAnyT_take (i := 2) (v := ?_) rfl (by kernel_rfl) (by kernel_rfl) (by kernel_rfl) (fun _ _ _ h => h) (Or.inl ⟨by kernel_rfl, ?_⟩) (by assumption) ?_
    rotate_left
    · intro w hSw; (try dsimp only at hSw); go_simp; (try with_reducible rfl)
    (try simp only [Act.put, List.getElem_toArray, List.getElem_cons_zero, List.getElem_cons_succ, List.setIfInBounds_toArray, List.set_cons_zero, List.set_cons_succ])
    refine wpAnyT_take (i := 3) (v := ?_) rfl (by kernel_rfl) (by kernel_rfl) (by kernel_rfl) (fun _ _ _ h => h) (Or.inl ⟨by kernel_rfl, ?_⟩) (by assumption) ?_
    rotate_left
    · intro w hSw; (try dsimp only at hSw); go_simp; (try with_reducible rfl)
    (try simp only [Act.put, List.getElem_toArray, List.getElem_cons_zero, List.getElem_cons_succ, List.setIfInBounds_toArray, List.set_cons_zero, List.set_cons_succ])
    refine wpAnyT_take (i := 4) (v := ?_) rfl (by kernel_rfl) (by kernel_rfl) (by kernel_rfl) (fun _ _ _ h => h) (Or.inl ⟨by kernel_rfl, ?_⟩) (by assumption) ?_
    rotate_left
    · intro w hSw; (try dsimp only at hSw); go_simp; (try with_reducible rfl)
    (try simp only [Act.put, List.getElem_toArray, List.getElem_cons_zero, List.getElem_cons_succ, List.setIfInBounds_toArray, List.set_cons_zero, List.set_cons_succ])
    refine wpAnyT_ready (rs := [5]) (by kernel_rfl) (by simp) ?_
    refine AllReadyT.cons rfl (fun K hK => ?_) AllReadyT.nil
    go_simp
    refine (psort_c _ HP0.out.drew).mono ?_
    rintro e w1 ⟨rfl, k1⟩
    refine hK.out _ _ ⟨k1.cell HS0.out.1, HS0.out.2.only (S := fun _ => False) (Only.of_kept k1) (fun h => h)⟩ (fun hHeld1 => ?_)
    clear hK K
    (try simp only [Act.put, List.getElem_toArray, List.getElem_cons_zero, List.getElem_cons_succ, List.setIfInBounds_toArray, List.set_cons_zero, List.set_cons_succ])
    have HP1 := Lib.hid (HP0.out.drew.kept k1)
    have HO1 := Lib.hid (HO0.out.drew.trans (Only.of_kept k1))
    clear k1 hHeld0
    refine wpAnyT_take (i := 6) (v := .tuple #[.nilFunc, .bool false]) rfl (by kernel_rfl) (by kernel_rfl) (by kernel_rfl) (fun _ _ _ h => h) (Or.inl ⟨by kernel_rfl, fun w hSw => ?_⟩) (by assumption) ?_
    · go_simp
      rw [HL.out w hSw.2]
      rfl
    (try simp only [Act.put, List.getElem_toArray, List.getElem_cons_zero, List.getElem_cons_succ, List.setIfInBounds_toArray, List.set_cons_zero, List.set_cons_succ])
    refine wpAnyT_take (i := 7) (v := ?_) rfl (by kernel_rfl) (by kernel_rfl) (by kernel_rfl) (fun _ _ _ h => h) (Or.inl ⟨by kernel_rfl, ?_⟩) (by assumption) ?_
    rotate_left
    · intro w hSw; (try dsimp only at hSw); go_simp; (try with_reducible rfl)
    (try simp only [Act.put, List.getElem_toArray, List.getElem_cons_zero, List.getElem_cons_succ, List.setIfInBounds_toArray, List.set_cons_zero, List.set_cons_succ])
    refine wpAnyT_take (i := 8) (v := ?_) rfl (by kernel_rfl) (by kernel_rfl) (by kernel_rfl) (fun _ _ _ h => h) (Or.inl ⟨by kernel_rfl, ?_⟩) (by assumption) ?_
    rotate_left
    · intro w hSw; (try dsimp only at hSw); go_simp; (try with_reducible rfl)
    (try simp only [Act.put, List.getElem_toArray, List.getElem_cons_zero, List.getElem_cons_succ, List.setIfInBounds_toArray, List.set_cons_zero, List.set_cons_succ])
    refine wpAnyT_take (i := 9) (v := ?_) rfl (by kernel_rfl) (by kernel_rfl) (by kernel_rfl) (fun _ _ _ h => h) (Or.inl ⟨by kernel_rfl, ?_⟩) (by assumption) ?_
    rotate_left
    · intro w hSw; (try dsimp only at hSw); go_simp; (try with_reducible rfl)
    (try simp only [Act.put, List.getElem_toArray, List.getElem_cons_zero, List.getElem_cons_succ, List.setIfInBounds_toArray, List.set_cons_zero, List.set_cons_succ])
    refine wpAnyT_take (i := 10) (v := ?_) rfl (by kernel_rfl) (by kernel_rfl) (by kernel_rfl) (fun _ _ _ h => h) (Or.inl ⟨by kernel_rfl, ?_⟩) (by assumption) ?_
    rotate_left
    · intro w hSw; (try dsimp only at hSw); go_simp; (try with_reducible rfl)
    (try simp only [Act.put, List.getElem_toArray, List.getElem_cons_zero, List.getElem_cons_succ, List.setIfInBounds_toArray, List.set_cons_zero, List.set_cons_succ])
    refine wpAnyT_ready (rs := [11]) (by kernel_rfl) (by simp) ?_
    refine AllReadyT.fin rfl (fun K hK => ?_)
    go_simp
    refine hK.out _ _ ?_
    clear hK K
    (try simp only [Act.put, List.getElem_toArray, List.getElem_cons_zero, List.getElem_cons_succ, List.setIfInBounds_toArray, List.set_cons_zero, List.set_cons_succ])
    refine wpAnyT_done (by kernel_rfl) ?_ _
    clear hHeld1
    go_wp2_with fail
    refine (prefuse_c _ HP1.out).mono ?_
    rintro e w2 ⟨rfl, k2⟩
    have HH := Lib.hid (HO1.out.trans (Only.of_kept k2))
    clear k2
    go_wp2_with fail
    exact ⟨rfl, .inr ⟨_, HE.out, rfl, HH.out⟩⟩
  | some v =>
    obtain ⟨hne, g, way, rfl, eg, hway, he⟩ := hW.some t r v hf
    have HL := Lib.hid (fun W (h : MapF Tryz.prog 9 p.m 20 p.f W) => show (Instr.lookup 82 (.map (some p.m)) (.string (Ps.srt t)) true).run Tryz.prog W = .ok (.tuple #[.func (.func g) #[] #[], .bool true]) W by
      have := h.look (Maps.string_keyed (P := Tryz.prog) Tryz.underlying9) Tryz.underlying82 (way_zero W) (Ps.srt t) (WideMaps.keyOf_string_mk Tryz.underlying9 HSZ.out)
      rw [hf] at this
      exact this)
    have HE := Lib.hid he
    have HNE := Lib.hid hne
    have HWY := Lib.hid hway
    clear hf he hne hway
    go_enter Tryz.func151, Tryz.ntmps151
    go_wp2_with (rw [HW0.out])
    refine wp_region_till (S := (fun W => W.cell? ⟨p.B, 1, none⟩ = some (.map (some p.m)) ∧ MapF Tryz.prog 9 p.m 20 p.f W)) 11 (by kernel_rfl) HS0.out (fun hHeld0 => ?_)
    refine wpAnyT_take (i := 0) (v := ?_) rfl (by kernel_rfl) (by kernel_rfl) (by kernel_rfl) (fun _ _ _ h => h) (Or.inl ⟨by kernel_rfl, ?_⟩) (by assumption) ?_
    rotate_left
    · intro w hSw; (try dsimp only at hSw); go_simp; (try with_reducible rfl)
    (try simp only [Act.put, List.getElem_toArray, List.getElem_cons_zero, List.getElem_cons_succ, List.setIfInBounds_toArray, List.set_cons_zero, List.set_cons_succ])
    refine wpAnyT_take (i := 1) (v := ?_) rfl (by kernel_rfl) (by kernel_rfl) (by kernel_rfl) (fun _ _ _ h => h) (Or.inl ⟨by kernel_rfl, ?_⟩) (by assumption) ?_
    rotate_left
    · intro w hSw; (try dsimp only at hSw); go_simp; (try with_reducible rfl)
    (try simp only [Act.put, List.getElem_toArray, List.getElem_cons_zero, List.getElem_cons_succ, List.setIfInBounds_toArray, List.set_cons_zero, List.set_cons_succ])
    refine wpAnyT_take (i := 2) (v := ?_) rfl (by kernel_rfl) (by kernel_rfl) (by kernel_rfl) (fun _ _ _ h => h) (Or.inl ⟨by kernel_rfl, ?_⟩) (by assumption) ?_
    rotate_left
    · intro w hSw; (try dsimp only at hSw); go_simp; (try with_reducible rfl)
    (try simp only [Act.put, List.getElem_toArray, List.getElem_cons_zero, List.getElem_cons_succ, List.setIfInBounds_toArray, List.set_cons_zero, List.set_cons_succ])
    refine wpAnyT_take (i := 3) (v := ?_) rfl (by kernel_rfl) (by kernel_rfl) (by kernel_rfl) (fun _ _ _ h => h) (Or.inl ⟨by kernel_rfl, ?_⟩) (by assumption) ?_
    rotate_left
    · intro w hSw; (try dsimp only at hSw); go_simp; (try with_reducible rfl)
    (try simp only [Act.put, List.getElem_toArray, List.getElem_cons_zero, List.getElem_cons_succ, List.setIfInBounds_toArray, List.set_cons_zero, List.set_cons_succ])
    refine wpAnyT_take (i := 4) (v := ?_) rfl (by kernel_rfl) (by kernel_rfl) (by kernel_rfl) (fun _ _ _ h => h) (Or.inl ⟨by kernel_rfl, ?_⟩) (by assumption) ?_
    rotate_left
    · intro w hSw; (try dsimp only at hSw); go_simp; (try with_reducible rfl)
    (try simp only [Act.put, List.getElem_toArray, List.getElem_cons_zero, List.getElem_cons_succ, List.setIfInBounds_toArray, List.set_cons_zero, List.set_cons_succ])
    refine wpAnyT_ready (rs := [5]) (by kernel_rfl) (by simp) ?_
    refine AllReadyT.cons rfl (fun K hK => ?_) AllReadyT.nil
    go_simp
    refine (psort_c _ HP0.out.drew).mono ?_
    rintro e w1 ⟨rfl, k1⟩
    refine hK.out _ _ ⟨k1.cell HS0.out.1, HS0.out.2.only (S := fun _ => False) (Only.of_kept k1) (fun h => h)⟩ (fun hHeld1 => ?_)
    clear hK K
    (try simp only [Act.put, List.getElem_toArray, List.getElem_cons_zero, List.getElem_cons_succ, List.setIfInBounds_toArray, List.set_cons_zero, List.set_cons_succ])
    have HP1 := Lib.hid (HP0.out.drew.kept k1)
    have HO1 := Lib.hid (HO0.out.drew.trans (Only.of_kept k1))
    have HB1 := Lib.hid (HB0.out.drew.kept k1)
    have HZ1 := Lib.hid (Nat.le_trans HZ0.out k1.size)
    clear k1 hHeld0
    refine wpAnyT_take (i := 6) (v := .tuple #[.func (.func g) #[] #[], .bool true]) rfl (by kernel_rfl) (by kernel_rfl) (by kernel_rfl) (fun _ _ _ h => h) (Or.inl ⟨by kernel_rfl, fun w hSw => ?_⟩) (by assumption) ?_
    · go_simp
      rw [HL.out w hSw.2]
      rfl
    (try simp only [Act.put, List.getElem_toArray, List.getElem_cons_zero, List.getElem_cons_succ, List.setIfInBounds_toArray, List.set_cons_zero, List.set_cons_succ])
    refine wpAnyT_take (i := 7) (v := ?_) rfl (by kernel_rfl) (by kernel_rfl) (by kernel_rfl) (fun _ _ _ h => h) (Or.inl ⟨by kernel_rfl, ?_⟩) (by assumption) ?_
    rotate_left
    · intro w hSw; (try dsimp only at hSw); go_simp; (try with_reducible rfl)
    (try simp only [Act.put, List.getElem_toArray, List.getElem_cons_zero, List.getElem_cons_succ, List.setIfInBounds_toArray, List.set_cons_zero, List.set_cons_succ])
    refine wpAnyT_take (i := 8) (v := ?_) rfl (by kernel_rfl) (by kernel_rfl) (by kernel_rfl) (fun _ _ _ h => h) (Or.inl ⟨by kernel_rfl, ?_⟩) (by assumption) ?_
    rotate_left
    · intro w hSw; (try dsimp only at hSw); go_simp; (try with_reducible rfl)
    (try simp only [Act.put, List.getElem_toArray, List.getElem_cons_zero, List.getElem_cons_succ, List.setIfInBounds_toArray, List.set_cons_zero, List.set_cons_succ])
    refine wpAnyT_take (i := 9) (v := ?_) rfl (by kernel_rfl) (by kernel_rfl) (by kernel_rfl) (fun _ _ _ h => h) (Or.inl ⟨by kernel_rfl, ?_⟩) (by assumption) ?_
    rotate_left
    · intro w hSw; (try dsimp only at hSw); go_simp; (try with_reducible rfl)
    (try simp only [Act.put, List.getElem_toArray, List.getElem_cons_zero, List.getElem_cons_succ, List.setIfInBounds_toArray, List.set_cons_zero, List.set_cons_succ])
    refine wpAnyT_take (i := 10) (v := ?_) rfl (by kernel_rfl) (by kernel_rfl) (by kernel_rfl) (fun _ _ _ h => h) (Or.inl ⟨by kernel_rfl, ?_⟩) (by assumption) ?_
    rotate_left
    · intro w hSw; (try dsimp only at hSw); go_simp; (try with_reducible rfl)
    (try simp only [Act.put, List.getElem_toArray, List.getElem_cons_zero, List.getElem_cons_succ, List.setIfInBounds_toArray, List.set_cons_zero, List.set_cons_succ])
    refine wpAnyT_ready (rs := [11]) (by kernel_rfl) (by simp) ?_
    refine AllReadyT.fin rfl (fun K hK => ?_)
    go_simp
    refine hK.out _ _ ?_
    clear hK K
    (try simp only [Act.put, List.getElem_toArray, List.getElem_cons_zero, List.getElem_cons_succ, List.setIfInBounds_toArray, List.set_cons_zero, List.set_cons_succ])
    refine wpAnyT_done (by kernel_rfl) ?_ _
    clear hHeld1
    go_wp2_with fail
    refine (HWY.out t r _ HKL.out HP1.out HNE.out).mono ?_
    rintro e w2 (⟨x2, ks2, r2, v2, h1, rfl, hx, hk, h4, h5, hok, h7⟩ | ⟨q, hb, rfl, ho⟩)
    rotate_left
    · have HH := Lib.hid (show Ps.prim F (t :: r) = .bad q ∧ Only (· = p.B) w w2 from ⟨HE.out.trans hb, HO1.out.trans ho⟩)
      clear hb ho
      go_wp2_with fail
      exact ⟨rfl, .inr ⟨_, HH.out.1, rfl, HH.out.2⟩⟩
    obtain ⟨va2, vc2, rfl⟩ := hk.slice
    have HB2 := Lib.hid (HB1.out.only h5 (by have := HN.out; omega))
    have HH := Lib.hid (show Ps.prim F (t :: r) = .ok x2 r2 ∧ x2.kids = ks2.map (·.1) ∧ KRow (w.heap.size + 1) w2 (.slice va2 ks2.length vc2) ks2 ∧ Pst p r2 w2 ∧ Only (· = p.B) w w2 ∧ x2.ok1 ∧ x2.count + r2.length ≤ (t :: r).length from ⟨HE.out.trans h1, hx, hk.lower HZ1.out, h4, HO1.out.trans h5, hok, h7⟩)
    clear h1 hx hk h4 h5 hok h7
    obtain ⟨⟨y0, y1, y2, y3, y4, y5⟩, f0, f1, f2, f3, f4, f5⟩ := nd_six HB2.out
    go_wp2_with fail
    exact node_end (x := x2) (ks := ks2) (v := .slice va2 ks2.length vc2) (by rfl) rfl rfl HB2.out HH.out.1 HH.out.2.1 HH.out.2.2.1 HH.out.2.2.2.1 HN.out.2 HH.out.2.2.2.2.1 HH.out.2.2.2.2.2.1 HH.out.2.2.2.2.2.2
end
end Go.Proofs.YtfkmnpgpfmkjaaaGreatDoor
namespace Go.Proofs.YtfkmnpgpfmkjaaaGreatDoor
open Go.ChangeShapes Go.WideShapes Go.ChangeAt Go.RowKit
attribute [local go_sem] Oper.semAt_some
open Ps (O W)

section
variable {D : Nat → Prop} {base : Nat} {p : PP} {w W W' : World} {gx : Nat} {x : Nd} {v : Value} {ks : List (Nd × Value)} {r r' : List Lx.T}
theorem KRowD.kids (h : KRowD D base W v ks) (hv : ∀ k, v.ownBlock = some k → D k) : KidsD D W v (ks.map (·.1)) := by
  rcases h.1.2 with ⟨rfl, hl0⟩ | ⟨g, cap, cur, rfl, hg1, hg2, hg3, hg4, hg5, hg6⟩
  · obtain rfl : ks = [] := List.eq_nil_of_length_eq_zero hl0
    exact Row.nil
  · refine ⟨_, cap, by rw [List.length_map], by rw [List.length_map]; exact hg3, hg4, fun i y hy => ⟨g, 0, rfl, ?_⟩⟩
    rw [List.getElem?_map] at hy
    obtain ⟨q, hq, rfl⟩ := Option.map_eq_some_iff.1 hy
    obtain ⟨hok, hk⟩ := h.2 q (List.mem_of_getElem? hq)
    obtain ⟨a, c, e, h1, h2, h3⟩ := hk
    have hk' : KidsD D W (.slice a q.1.kids.length c) q.1.kids := ⟨a, c, rfl, h1, h2, fun i x hx => by obtain ⟨b, o, e, r⟩ := h3 i x hx; exact ⟨b, o, e, r.mono fun k _ hk => hk.1⟩⟩
    refine NdD.shut (ad := a) (c := c) (fun j u hu => ?_) hok hk' (hv g rfl)
    rw [← e] at hu
    have hj : j < 6 := by
      rcases Nat.lt_or_ge j 6 with h | h
      · exact h
      · rw [List.getElem?_eq_none (by rw [ndC_len]; exact h)] at hu; cases hu
    have c0 := h.1.cells (g := g) rfl _ _ ((flat_at (fun p : Nd × Value => ndC p.1 p.2) ndC_len ks i j q hq hj).trans hu)
    rw [Addr.add_lit] at c0
    simpa [Nat.add_assoc] using c0

theorem KRowD.lit (ks : List (Nd × Value)) {X : World} {cs : Array Value} {g n : Nat} (hg : g = X.heap.size) (hn : n = ks.length) (hcs : cs = (ks.flatMap fun p => ndC p.1 p.2).toArray) (hb : base ≤ X.heap.size) (hm : ks.length ≤ 100)
    (h : ∀ q ∈ ks, q.1.ok1 ∧ KidsD D X q.2 q.1.kids) : KRowD D base (X.alloc (.cells cs nT)) (.slice (some ⟨g, 0, none⟩) n n) ks := by
  subst hg hn hcs
  have hl := flat_len (fun p : Nd × Value => ndC p.1 p.2) ndC_len ks
  refine ⟨⟨hl, .inr ⟨X.heap.size, ks.length, _, rfl, hb, Blk.new X nT _, Nat.le_refl _, by unfold maxLen; omega, by simpa using hl, by rw [List.take_of_length_le (by simpa using Nat.le_of_eq hl)]⟩⟩, fun q hq => ?_⟩
  obtain ⟨h1, h3⟩ := h q hq
  refine ⟨h1, ?_⟩
  refine (h3.mono (E := fun k => D k ∧ (Value.slice (some ⟨X.heap.size, 0, none⟩) ks.length ks.length).ownBlock ≠ some k) fun k hk hd => ⟨hd, fun e => ?_⟩).kept ((Kept.refl X).alloc _)
  have : X.heap.size = k := by simpa [Value.ownBlock] using e
  omega

/-- The box written anew. -/
theorem AppI.put (h : AppI p w gx x v ks r W) {v' : Value} {k2 : List (Nd × Value)} (hr : KRowD (fun k => w.heap.size + 1 ≤ k ∧ k ≠ gx) (w.heap.size + 1) W v' k2) (hne : v'.ownBlock ≠ some gx) (x' : Nd) : AppI p w gx x' v' k2 r (put6n W gx x' v') := by
  have hge := h.gx
  have o3 := put6n_only W gx x' v'
  exact ⟨put6n_blk h.box x' v', hr.only o3 (fun k hk e => hne (by rw [hk, e])) (fun k hk e => hk.2 e), hne, h.res.only o3 (by omega), h.gx, h.pst.only o3 (fun b hb e => by omega), h.only.past (o3.mono (T := fun k => w.heap.size + 1 ≤ k) fun k _ e => by omega) (by omega)⟩
/-- What the box holds, as a kid of a node that is made at once: alone, or ahead of another one. -/
theorem AppI.asKid (h : AppI p w gx x v ks r W) (hx : x.kids = ks.map (·.1)) : KidsD (fun k => w.heap.size + 1 ≤ k ∧ k ≠ gx) W v x.kids := by
  rw [hx]
  exact h.row.kids fun k hk => ⟨owns_block0 h.row.1 hk, fun e => h.ne (by rw [hk, e])⟩
theorem AppI.lit1 (h : AppI p w gx x v ks r W) (hx : x.kids = ks.map (·.1)) (hok : x.ok1) :
    KRowD (fun k => w.heap.size + 1 ≤ k ∧ k ≠ gx) (w.heap.size + 1) (W.alloc (.cells (ndA x v) nT)) (.slice (some ⟨W.heap.size, 0, none⟩) 1 1) [(x, v)] ∧ (Value.slice (some ⟨W.heap.size, 0, none⟩) 1 1).ownBlock ≠ some gx := by
  refine ⟨KRowD.lit [(x, v)] rfl rfl rfl h.size (by simp) (fun q hq => by
    rw [List.mem_singleton] at hq; subst hq
    exact ⟨hok, h.asKid hx⟩), fun e => ?_⟩
  have := h.box.lt
  have : W.heap.size = gx := by simpa [Value.ownBlock] using e
  omega
/-- A row of one's own that was made ahead of a call. -/
theorem KRowD.call {k2 : List (Nd × Value)} (hr : KRowD (fun k => w.heap.size + 1 ≤ k ∧ k ≠ gx) (w.heap.size + 1) W v k2) (ho : Only (· = p.B) W W') (hb : p.B < w.heap.size) : KRowD (fun k => w.heap.size + 1 ≤ k ∧ k ≠ gx) (w.heap.size + 1) W' v k2 :=
  hr.only ho (fun k hk e => by have := owns_block0 hr.1 hk; omega) (fun k hk e => by omega)
/-- The node in the box and another one. -/
theorem AppI.lit2 {x1 : Nd} {v1 : Value} {k1 : List (Nd × Value)} {W1 : World} (h : AppI p w gx x v ks r W) (hx : x.kids = ks.map (·.1)) (hok : x.ok1) (ho : Only (· = p.B) W W1) (hp : Pst p r' W1) (hx1 : x1.kids = k1.map (·.1)) (hk : KRow W.heap.size W1 v1 k1) (hok1 : x1.ok1) :
    AppI p w gx x v ks r' W1 ∧ KRowD (fun k => w.heap.size + 1 ≤ k ∧ k ≠ gx) (w.heap.size + 1) (W1.alloc (.cells #[.int .i64 x.kind, .string x.text, .string x.typ, .string x.frm, .int .i64 x.n, v, .int .i64 x1.kind, .string x1.text, .string x1.typ, .string x1.frm, .int .i64 x1.n, v1] nT)) (.slice (some ⟨W1.heap.size, 0, none⟩) 2 2) [(x, v), (x1, v1)] ∧
      (Value.slice (some ⟨W1.heap.size, 0, none⟩) 2 2).ownBlock ≠ some gx := by
  have h1 := h.call ho hp
  have hlt := h.box.lt
  refine ⟨h1, KRowD.lit [(x, v), (x1, v1)] rfl rfl rfl h1.size (by simp) (fun q hq => ?_), fun e => ?_⟩
  · rcases List.mem_cons.1 hq with rfl | hq
    · exact ⟨hok, h1.asKid hx⟩
    · rw [List.mem_singleton] at hq; subst hq
      have hk2 := hk.kids
      rw [← hx1] at hk2
      exact ⟨hok1, hk2.mono fun k _ hd => ⟨Nat.le_trans h.size hd, by omega⟩⟩
  · have := h1.box.lt
    have : W1.heap.size = gx := by simpa [Value.ownBlock] using e
    omega
theorem AppI.cells (h : AppI p w gx x v ks r W) : W.cell? ⟨gx, 0, none⟩ = some (.int .i64 x.kind) ∧ W.cell? ⟨gx, 1, none⟩ = some (.string x.text) ∧ W.cell? ⟨gx, 2, none⟩ = some (.string x.typ) ∧ W.cell? ⟨gx, 3, none⟩ = some (.string x.frm) ∧ W.cell? ⟨gx, 4, none⟩ = some (.int .i64 x.n) ∧ W.cell? ⟨gx, 5, none⟩ = some v :=
  ⟨h.box.cell 0, h.box.cell 1, h.box.cell 2, h.box.cell 3, h.box.cell 4, h.box.cell 5⟩
end
end Go.Proofs.YtfkmnpgpfmkjaaaGreatDoor
namespace Go.Proofs.YtfkmnpgpfmkjaaaGreatDoor
open Go.ChangeShapes Go.WideShapes Go.ChangeAt Go.RowKit
attribute [local go_sem] Oper.semAt_some
open Ps (O W)

section
variable {p : PP} {F : Ps.Fam} {k : Nat}

set_option maxHeartbeats 1000000 in
theorem brackets_c (hF : FamC p F k) : WayC p k 62 (Ps.wBrackets F) := by
  intro t0 r0 w hk hp hsr
  obtain ⟨W0, hW0⟩ : ∃ W0, w.alloc (.cells pzN nT) = W0 := ⟨_, rfl⟩
  have k0 : Kept w W0 := by rw [← hW0]; exact (Kept.refl w).alloc _
  have HZ0 := Lib.hid (show w.heap.size + 1 ≤ W0.heap.size by rw [← hW0]; simp)
  have HB0 := Lib.hid (show Blk W0 w.heap.size nT pzN by rw [← hW0]; exact Blk.new _ _ _)
  have HP0 := Lib.hid (hp.kept k0)
  have HN := Lib.hid hp.lt
  have HO0 := Lib.hid (show Only (· = p.B) w W0 from Only.of_kept k0)
  have HW0 := Lib.hid hW0
  have HSR := Lib.hid hsr
  have HTK := Lib.hid (hp.good.ok t0 (by simp))
  have HKL := Lib.hid hk
  clear hp k0 hW0 hsr hk
  have hf1 := field_tok1
  have hf2 := field_tok2
  go_enter Tryz.func62, Tryz.ntmps62
  go_wp2_with (rw [HW0.out])
  refine (pnext_c _ HP0.out HSR.out).mono ?_
  rintro e w1 ⟨rfl, h4, h5⟩
  have HP1 := Lib.hid h4
  have HO1 := Lib.hid (HO0.out.trans h5)
  have HZ1 := Lib.hid (Nat.le_trans HZ0.out (Only.size h5))
  have HB1 := Lib.hid (HB0.out.only h5 (by have := HN.out; omega))
  clear h4 h5
  go_wp2_with fail
  refine (pskip_c Ps.kShut r0 _ HP1.out (by decide +kernel)).mono ?_
  rintro e w2 (⟨h1, rfl, h2, h3, h4⟩ | ⟨h1, rfl, h2, h3⟩)
  · have HE2 := Lib.hid h1
    have HL2 := Lib.hid h4
    have HP2 := Lib.hid h2
    have HO2 := Lib.hid (HO1.out.trans h3)
    have HB2 := Lib.hid (HB1.out.only h3 (by have := HN.out; omega))
    clear h1 h2 h3 h4
    obtain ⟨⟨y0, y1, y2, y3, y4, y5⟩, f0, f1, f2, f3, f4, f5⟩ := nd_six HB2.out
    go_wp2_with fail
    refine node_end (x := Ps.nd 11 Ps.e0 Ps.e0 0 []) (ks := []) (by rfl) rfl rfl HB2.out (by simp only [Ps.wBrackets, HE2.out, if_true]) rfl (KRow.nil _ _) HP2.out HN.out.2 HO2.out (nd_ok1 _ _ _ _ _ (by decide) e0_size e0_size (by decide)) ?_
    have := HL2.out
    rw [count_nd, Nd.countL_nil, List.length_cons]; omega
  have HE2 := Lib.hid h1
  have HP2 := Lib.hid h2
  have HO2 := Lib.hid (HO1.out.trans h3)
  have HZ2 := Lib.hid (Nat.le_trans HZ1.out (Only.size h3))
  have HB2 := Lib.hid (HB1.out.only h3 (by have := HN.out; omega))
  clear h1 h2 h3
  go_wp2_with fail
  refine (hF.expr _ _ (by have := HKL.out; skip; omega) HP2.out).mono ?_
  rintro e w3 (⟨x3, ks3, r3, v3, h1, rfl, hx, hk, h4, h5, hok, h7⟩ | ⟨q, hb, rfl, ho⟩)
  rotate_left
  · have HH := Lib.hid (show (Ps.wBrackets F) t0 r0 = .bad q ∧ Only (· = p.B) w w3 from ⟨by simp only [Ps.wBrackets, HE2.out, hb, Ps.O.bind_ok, Ps.O.bind_bad, eq_self, if_true, Bool.false_eq_true, if_false], HO2.out.trans ho⟩)
    clear hb ho
    go_wp2_with fail
    exact ⟨rfl, .inr ⟨_, HH.out.1, rfl, HH.out.2⟩⟩
  have HE3 := Lib.hid h1
  have HX3 := Lib.hid (And.intro hx hok)
  have HL3 := Lib.hid h7
  have HKx3a3 := Lib.hid (hk.lower HZ2.out)
  have HP3 := Lib.hid h4
  have HO3 := Lib.hid (HO2.out.trans h5)
  have HZ3 := Lib.hid (Nat.le_trans HZ2.out (Only.size h5))
  have HB3 := Lib.hid (HB2.out.only h5 (by have := HN.out; omega))
  clear h1 hx hk h4 h5 hok h7
  obtain ⟨va3, vc3, rfl⟩ := HKx3a3.out.slice
  obtain ⟨V3, hV3⟩ : ∃ V, w3.alloc (.cells (ndA x3 (.slice va3 ks3.length vc3)) nT) = V := ⟨_, rfl⟩
  have AI3 := Lib.hid (AppI.new (x := x3) HKx3a3.out HB3.out HN.out HP3.out HO3.out rfl hV3)
  have HV3 := Lib.hid hV3
  clear hV3
  go_wp2_with (rw [HV3.out])
  refine (pskip_c Ps.kColon r3 _ AI3.out.pst (by decide +kernel)).mono ?_
  rintro e w4 (⟨h1, rfl, h2, h3, h4⟩ | ⟨h1, rfl, h2, h3⟩)
  rotate_left
  · have HE4 := Lib.hid h1
    have AI4 := Lib.hid (AI3.out.call h3 h2)
    clear h1 h2 h3
    go_wp2_with fail
    refine (take_l [Ps.kShut] (ty := 9) AI4.out.pst (by first | rfl | simp) rfl rfl (by decide) (by decide +kernel)).mono ?_
    rintro e w5 (⟨t5, r5, h1, h2, rfl, h4, h5, h6⟩ | ⟨q, hb, rfl, ho⟩)
    rotate_left
    · have HH := Lib.hid (show (Ps.wBrackets F) t0 r0 = .bad q ∧ Only (· = p.B) w w5 from ⟨by simp only [Ps.wBrackets, HE2.out, HE3.out, HE4.out, hb, Ps.O.bind_ok, Ps.O.bind_bad, eq_self, if_true, Bool.false_eq_true, if_false], AI4.out.only.trans ho⟩)
      clear hb ho
      go_wp2_with fail
      exact ⟨rfl, .inr ⟨_, HH.out.1, rfl, HH.out.2⟩⟩
    have HE5 := Lib.hid h1
    have HL5 := Lib.hid (show r5.length + 1 = r3.length by rw [h2]; rfl)
    have AI5 := Lib.hid (AI4.out.call h5 h4)
    clear h1 h2 h4 h5 h6
    obtain ⟨z0, z1, z2, z3, z4, z5⟩ := AI5.out.cells
    obtain ⟨⟨y0, y1, y2, y3, y4, y5⟩, f0, f1, f2, f3, f4, f5⟩ := nd_six AI5.out.res
    go_wp2_with fail
    refine AI5.out.end (y := x3) (by rfl) rfl rfl ⟨rfl, rfl, rfl, rfl, rfl⟩ (by simp only [Ps.wBrackets, HE2.out, HE3.out, HE4.out, HE5.out, Ps.O.bind_ok, Ps.O.bind_bad, eq_self, if_true, Bool.false_eq_true, if_false]) HX3.out.1 HX3.out.2 ?_
    have := HL3.out; have := HL5.out
    rw [List.length_cons]; omega
  have HE4 := Lib.hid h1
  have HL4 := Lib.hid h4
  have AI4 := Lib.hid (AI3.out.call h3 h2)
  clear h1 h2 h3 h4
  go_wp2_with fail
  have HC4 := Lib.hid AI4.out.drew.cells
  refine wp_region_till (S := (fun W => W.cell? ⟨w3.heap.size, 0, none⟩ = some (.int .i64 x3.kind) ∧ W.cell? ⟨w3.heap.size, 1, none⟩ = some (.string x3.text) ∧ W.cell? ⟨w3.heap.size, 2, none⟩ = some (.string x3.typ) ∧ W.cell? ⟨w3.heap.size, 3, none⟩ = some (.string x3.frm) ∧ W.cell? ⟨w3.heap.size, 4, none⟩ = some (.int .i64 x3.n) ∧ W.cell? ⟨w3.heap.size, 5, none⟩ = some (.slice va3 ks3.length vc3))) 5 (by kernel_rfl) HC4.out (fun hHeld0 => ?_)
  refine wpAnyT_take (i := 0) (v := ?_) rfl (by kernel_rfl) (by kernel_rfl) (by kernel_rfl) (fun _ _ _ h => h) (Or.inl ⟨by kernel_rfl, ?_⟩) (by assumption) ?_
  rotate_left
  · intro w hSw; (try dsimp only at hSw); go_simp; (try with_reducible rfl)
  (try simp only [Act.put, List.getElem_toArray, List.getElem_cons_zero, List.getElem_cons_succ, List.setIfInBounds_toArray, List.set_cons_zero, List.set_cons_succ])
  refine wpAnyT_take (i := 2) (v := ?_) rfl (by kernel_rfl) (by kernel_rfl) (by kernel_rfl) (fun _ _ _ h => h) (Or.inl ⟨by kernel_rfl, ?_⟩) (by assumption) ?_
  rotate_left
  · intro w hSw; (try dsimp only at hSw); go_simp; (try with_reducible rfl)
  (try simp only [Act.put, List.getElem_toArray, List.getElem_cons_zero, List.getElem_cons_succ, List.setIfInBounds_toArray, List.set_cons_zero, List.set_cons_succ])
  refine wpAnyT_ready (rs := [1, 3]) (by kernel_rfl) (by simp) ?_
  refine AllReadyT.cons rfl (fun K hK => ?_) (AllReadyT.cons rfl (fun K hK => ?_) AllReadyT.nil)
  · go_simp
    refine (ptyp_c _ _ AI4.out.drew.pst).mono ?_
    rintro e w5 (⟨yy5, r5, h1, rfl, h4, h5, h6, h7⟩ | ⟨q, hb, rfl, ho⟩)
    rotate_left
    · have HH := Lib.hid (show (Ps.wBrackets F) t0 r0 = .bad q ∧ Only (· = p.B) w w5 from ⟨by simp only [Ps.wBrackets, HE2.out, HE3.out, HE4.out, hb, Ps.O.bind_ok, Ps.O.bind_bad, eq_self, if_true, Bool.false_eq_true, if_false], AI4.out.drew.only.trans ho⟩)
      clear hb ho
      exact ⟨rfl, .inr ⟨_, HH.out.1, rfl, HH.out.2⟩⟩
    have HE5 := Lib.hid h1
    have HT5 := Lib.hid h6
    have HL5 := Lib.hid h7
    have AI5 := Lib.hid (AI4.out.drew.call h5 h4)
    refine hK.out _ _ AI5.out.cells (fun hHeld1 => ?_)
    clear hK K
    (try simp only [Act.put, List.getElem_toArray, List.getElem_cons_zero, List.getElem_cons_succ, List.setIfInBounds_toArray, List.set_cons_zero, List.set_cons_succ])
    clear h1 h4 h5 h6 h7 hHeld0
    refine wpAnyT_ready (rs := [3]) (by kernel_rfl) (by simp) ?_
    refine AllReadyT.cons rfl (fun K hK => ?_) AllReadyT.nil
    obtain ⟨W6, hW6⟩ : ∃ W6, w5.alloc (.cells (ndA x3 (.slice va3 ks3.length vc3)) nT) = W6 := ⟨_, rfl⟩
    have HKR := Lib.hid (AI5.out.lit1 HX3.out.1 HX3.out.2)
    rw [hW6] at HKR
    have AI6 := Lib.hid (AI5.out.kept (show Kept w5 W6 by rw [← hW6]; exact (Kept.refl _).alloc _))
    have HW6 := Lib.hid hW6
    clear hW6
    go_simp
    rw [HW6.out]
    refine hK.out _ _ AI6.out.cells (fun hHeld0 => ?_)
    clear hK K
    (try simp only [Act.put, List.getElem_toArray, List.getElem_cons_zero, List.getElem_cons_succ, List.setIfInBounds_toArray, List.set_cons_zero, List.set_cons_succ])
    refine wpAnyT_take (i := 4) (v := ?_) rfl (by kernel_rfl) (by kernel_rfl) (by kernel_rfl) (fun _ _ _ h => h) (Or.inl ⟨by kernel_rfl, ?_⟩) (by assumption) ?_
    rotate_left
    · intro w hSw; (try dsimp only at hSw); go_simp; (try with_reducible rfl)
    (try simp only [Act.put, List.getElem_toArray, List.getElem_cons_zero, List.getElem_cons_succ, List.setIfInBounds_toArray, List.set_cons_zero, List.set_cons_succ])
    obtain ⟨_, g0, g1, g2, g3, g4, g5⟩ := nd_six AI6.out.box
    clear hHeld1 hHeld0
    refine wpAnyT_ready (rs := [5]) (by kernel_rfl) (by simp) ?_
    refine AllReadyT.fin rfl (fun K hK => ?_)
    go_simp
    refine hK.out _ _ ?_
    clear hK K
    (try simp only [Act.put, List.getElem_toArray, List.getElem_cons_zero, List.getElem_cons_succ, List.setIfInBounds_toArray, List.set_cons_zero, List.set_cons_succ])
    refine wpAnyT_done (by kernel_rfl) ?_ _
    have hai := AI6.out.put HKR.out.1 HKR.out.2 (Ps.nd 28 Ps.e0 yy5 0 [x3])
    obtain ⟨W7, hW7⟩ : ∃ W7, put6n W6 w3.heap.size (Ps.nd 28 Ps.e0 yy5 0 [x3]) (.slice (some ⟨w5.heap.size, 0, none⟩) 1 1) = W7 := ⟨_, rfl⟩
    rw [hW7] at hai
    have AI7 := Lib.hid hai
    have HW7 := Lib.hid (show (((((W6.setCell ⟨w3.heap.size, 0, none⟩ (.int .i64 28)).setCell ⟨w3.heap.size, 1, none⟩ (.string Ps.e0)).setCell ⟨w3.heap.size, 2, none⟩ (.string yy5)).setCell ⟨w3.heap.size, 3, none⟩ (.string Ps.e0)).setCell ⟨w3.heap.size, 4, none⟩ (.int .i64 0)).setCell ⟨w3.heap.size, 5, none⟩ (.slice (some ⟨w5.heap.size, 0, none⟩) 1 1) = W7 from hW7)
    clear hai hW7
    rw [HW7.out]
    go_wp2_with fail
    refine (take_l [Ps.kShut] (ty := 9) AI7.out.pst (by first | rfl | simp) rfl rfl (by decide) (by decide +kernel)).mono ?_
    rintro e w8 (⟨t8, r8, h1, h2, rfl, h4, h5, h6⟩ | ⟨q, hb, rfl, ho⟩)
    rotate_left
    · have HH := Lib.hid (show (Ps.wBrackets F) t0 r0 = .bad q ∧ Only (· = p.B) w w8 from ⟨by simp only [Ps.wBrackets, HE2.out, HE3.out, HE4.out, HE5.out, hb, Ps.O.bind_ok, Ps.O.bind_bad, eq_self, if_true, Bool.false_eq_true, if_false], AI7.out.only.trans ho⟩)
      clear hb ho
      go_wp2_with fail
      exact ⟨rfl, .inr ⟨_, HH.out.1, rfl, HH.out.2⟩⟩
    have HE8 := Lib.hid h1
    have HL8 := Lib.hid (show r8.length + 1 = r5.length by rw [h2]; rfl)
    have AI8 := Lib.hid (AI7.out.call h5 h4)
    clear h1 h2 h4 h5 h6
    obtain ⟨⟨z0, z1, z2, z3, z4, z5⟩, _⟩ := nd_six AI8.out.box
    obtain ⟨⟨y0, y1, y2, y3, y4, y5⟩, f0, f1, f2, f3, f4, f5⟩ := nd_six AI8.out.res
    go_wp2_with fail
    refine AI8.out.end (y := Ps.nd 28 Ps.e0 yy5 0 [x3]) (by rfl) rfl rfl ⟨rfl, rfl, rfl, rfl, rfl⟩ (by simp only [Ps.wBrackets, HE2.out, HE3.out, HE4.out, HE5.out, HE8.out, Ps.O.bind_ok, Ps.O.bind_bad, eq_self, if_true, Bool.false_eq_true, if_false]) rfl (nd_ok1 _ _ _ _ _ (by decide) e0_size HT5.out (by decide)) ?_
    have := HL3.out; have := HL4.out; have := HL5.out; have := HL8.out
    rw [count_nd, Nd.countL_cons, Nd.countL_nil, List.length_cons]; omega
  · obtain ⟨W5, hW5⟩ : ∃ W5, (w4.alloc (.cells (ndA x3 (.slice va3 ks3.length vc3)) nT)).drew = W5 := ⟨_, rfl⟩
    have HKQ := AI4.out.drew.lit1 HX3.out.1 HX3.out.2
    rw [show w4.drew.alloc (.cells (ndA x3 (.slice va3 ks3.length vc3)) nT) = W5 from hW5] at HKQ
    replace HKQ := Lib.hid (show KRowD (fun k => w.heap.size + 1 ≤ k ∧ k ≠ w3.heap.size) (w.heap.size + 1) W5 (.slice (some ⟨w4.heap.size, 0, none⟩) 1 1) [(x3, .slice va3 ks3.length vc3)] ∧ (Value.slice (some ⟨w4.heap.size, 0, none⟩) 1 1).ownBlock ≠ some w3.heap.size from HKQ)
    have AI5 := Lib.hid (AI4.out.drew.kept (show Kept w4.drew W5 by rw [← hW5]; exact (show Kept w4.drew (w4.drew.alloc (.cells (ndA x3 (.slice va3 ks3.length vc3)) nT)) from (Kept.refl w4.drew).alloc _)))
    have HW5 := Lib.hid hW5
    clear hW5
    go_simp
    rw [HW5.out]
    refine hK.out _ _ AI5.out.cells (fun hHeld1 => ?_)
    clear hK K
    (try simp only [Act.put, List.getElem_toArray, List.getElem_cons_zero, List.getElem_cons_succ, List.setIfInBounds_toArray, List.set_cons_zero, List.set_cons_succ])
    clear hHeld0
    refine wpAnyT_ready (rs := [1]) (by kernel_rfl) (by simp) ?_
    refine AllReadyT.cons rfl (fun K hK => ?_) AllReadyT.nil
    go_simp
    refine (ptyp_c _ _ AI5.out.pst).mono ?_
    rintro e w5 (⟨yy5, r5, h1, rfl, h4, h5, h6, h7⟩ | ⟨q, hb, rfl, ho⟩)
    rotate_left
    · have HH := Lib.hid (show (Ps.wBrackets F) t0 r0 = .bad q ∧ Only (· = p.B) w w5 from ⟨by simp only [Ps.wBrackets, HE2.out, HE3.out, HE4.out, hb, Ps.O.bind_ok, Ps.O.bind_bad, eq_self, if_true, Bool.false_eq_true, if_false], AI5.out.only.trans ho⟩)
      clear hb ho
      exact ⟨rfl, .inr ⟨_, HH.out.1, rfl, HH.out.2⟩⟩
    have HE5 := Lib.hid h1
    have HT5 := Lib.hid h6
    have HL5 := Lib.hid h7
    obtain ⟨W6, hw6⟩ : ∃ W6, W6 = w5 := ⟨_, rfl⟩
    have AI6 := Lib.hid (AI5.out.call h5 h4)
    have HKR := Lib.hid (And.intro (HKQ.out.1.call h5 (by have := HN.out; omega)) HKQ.out.2)
    rw [← hw6] at AI6 HKR ⊢
    clear hw6
    refine hK.out _ _ AI6.out.cells (fun hHeld0 => ?_)
    clear hK K
    (try simp only [Act.put, List.getElem_toArray, List.getElem_cons_zero, List.getElem_cons_succ, List.setIfInBounds_toArray, List.set_cons_zero, List.set_cons_succ])
    clear h1 h4 h5 h6 h7
    refine wpAnyT_take (i := 4) (v := ?_) rfl (by kernel_rfl) (by kernel_rfl) (by kernel_rfl) (fun _ _ _ h => h) (Or.inl ⟨by kernel_rfl, ?_⟩) (by assumption) ?_
    rotate_left
    · intro w hSw; (try dsimp only at hSw); go_simp; (try with_reducible rfl)
    (try simp only [Act.put, List.getElem_toArray, List.getElem_cons_zero, List.getElem_cons_succ, List.setIfInBounds_toArray, List.set_cons_zero, List.set_cons_succ])
    obtain ⟨_, g0, g1, g2, g3, g4, g5⟩ := nd_six AI6.out.box
    clear hHeld1 hHeld0
    refine wpAnyT_ready (rs := [5]) (by kernel_rfl) (by simp) ?_
    refine AllReadyT.fin rfl (fun K hK => ?_)
    go_simp
    refine hK.out _ _ ?_
    clear hK K
    (try simp only [Act.put, List.getElem_toArray, List.getElem_cons_zero, List.getElem_cons_succ, List.setIfInBounds_toArray, List.set_cons_zero, List.set_cons_succ])
    refine wpAnyT_done (by kernel_rfl) ?_ _
    have hai := AI6.out.put HKR.out.1 HKR.out.2 (Ps.nd 28 Ps.e0 yy5 0 [x3])
    obtain ⟨W7, hW7⟩ : ∃ W7, put6n W6 w3.heap.size (Ps.nd 28 Ps.e0 yy5 0 [x3]) (.slice (some ⟨w4.heap.size, 0, none⟩) 1 1) = W7 := ⟨_, rfl⟩
    rw [hW7] at hai
    have AI7 := Lib.hid hai
    have HW7 := Lib.hid (show (((((W6.setCell ⟨w3.heap.size, 0, none⟩ (.int .i64 28)).setCell ⟨w3.heap.size, 1, none⟩ (.string Ps.e0)).setCell ⟨w3.heap.size, 2, none⟩ (.string yy5)).setCell ⟨w3.heap.size, 3, none⟩ (.string Ps.e0)).setCell ⟨w3.heap.size, 4, none⟩ (.int .i64 0)).setCell ⟨w3.heap.size, 5, none⟩ (.slice (some ⟨w4.heap.size, 0, none⟩) 1 1) = W7 from hW7)
    clear hai hW7
    rw [HW7.out]
    go_wp2_with fail
    refine (take_l [Ps.kShut] (ty := 9) AI7.out.pst (by first | rfl | simp) rfl rfl (by decide) (by decide +kernel)).mono ?_
    rintro e w8 (⟨t8, r8, h1, h2, rfl, h4, h5, h6⟩ | ⟨q, hb, rfl, ho⟩)
    rotate_left
    · have HH := Lib.hid (show (Ps.wBrackets F) t0 r0 = .bad q ∧ Only (· = p.B) w w8 from ⟨by simp only [Ps.wBrackets, HE2.out, HE3.out, HE4.out, HE5.out, hb, Ps.O.bind_ok, Ps.O.bind_bad, eq_self, if_true, Bool.false_eq_true, if_false], AI7.out.only.trans ho⟩)
      clear hb ho
      go_wp2_with fail
      exact ⟨rfl, .inr ⟨_, HH.out.1, rfl, HH.out.2⟩⟩
    have HE8 := Lib.hid h1
    have HL8 := Lib.hid (show r8.length + 1 = r5.length by rw [h2]; rfl)
    have AI8 := Lib.hid (AI7.out.call h5 h4)
    clear h1 h2 h4 h5 h6
    obtain ⟨⟨z0, z1, z2, z3, z4, z5⟩, _⟩ := nd_six AI8.out.box
    obtain ⟨⟨y0, y1, y2, y3, y4, y5⟩, f0, f1, f2, f3, f4, f5⟩ := nd_six AI8.out.res
    go_wp2_with fail
    refine AI8.out.end (y := Ps.nd 28 Ps.e0 yy5 0 [x3]) (by rfl) rfl rfl ⟨rfl, rfl, rfl, rfl, rfl⟩ (by simp only [Ps.wBrackets, HE2.out, HE3.out, HE4.out, HE5.out, HE8.out, Ps.O.bind_ok, Ps.O.bind_bad, eq_self, if_true, Bool.false_eq_true, if_false]) rfl (nd_ok1 _ _ _ _ _ (by decide) e0_size HT5.out (by decide)) ?_
    have := HL3.out; have := HL4.out; have := HL5.out; have := HL8.out
    rw [count_nd, Nd.countL_cons, Nd.countL_nil, List.length_cons]; omega
end
end Go.Proofs.YtfkmnpgpfmkjaaaGreatDoor
namespace Go.Proofs.YtfkmnpgpfmkjaaaGreatDoor
open Go.ChangeShapes Go.WideShapes Go.ChangeAt Go.RowKit
attribute [local go_sem] Oper.semAt_some
open Ps (O W)

section
variable {p : PP} {F : Ps.Fam} {k : Nat}

theorem take_k {l : List Lx.T} {W : World} {g : Nat} {ty : TypeId} (k : ByteArray) (hp : Pst p l W) (hb : Blk W g ty #[.string k]) (he : Ps.mem [k] Ps.theEnd = false) :
    Calls Tryz.prog 25 #[.pointer (some ⟨p.B, 0, none⟩), .slice (some ⟨g, 0, none⟩) 1 1] W (TakePost p [k] l W) :=
  take_c (fun _ => True) [k] _ _ _ l _ hp rfl (LvR.lit [k] hb (short_len (by simp))) (Ps.mem_f.1 he)

/-- Behind a prim. -/
structure PostI (p : PP) (F : Ps.Fam) (w : World) (gx : Nat) (o : O Nd) (n : Nat) (x : Nd) (va : Option Addr) (vc : Nat) (ks : List (Nd × Value)) (r : List Lx.T) (W : World) : Prop where
  app : AppI p w gx x (.slice va ks.length vc) ks r W
  kids : x.kids = ks.map (·.1)
  ok : x.ok1
  eq : ∃ K, r.length ≤ K ∧ o = Ps.postLoop F K x r
  cnt : x.count + r.length ≤ n
def dotP (F : Ps.Fam) (x : Nd) (K : Nat) (t : Lx.T) (r : List Lx.T) : O Nd := if Ps.is [Ps.kOpen] r then (Ps.args F r).bind fun av r => Ps.postLoop F K (Ps.nd 19 t.text Ps.e0 0 (x :: av)) r else Ps.postLoop F K (Ps.nd 17 t.text Ps.e0 0 [x]) r
theorem PostI.out {w W : World} {gx n vc : Nat} {o : O Nd} {x : Nd} {va : Option Addr} {ks : List (Nd × Value)} {r : List Lx.T} (h : PostI p F w gx o n x va vc ks r W) (hi : Ps.is [Ps.kDot] r = false) : o = .ok x r := by
  obtain ⟨K, hK, e⟩ := h.eq
  cases K with
  | zero => exact absurd (List.eq_nil_of_length_eq_zero (by omega)) h.app.len.1
  | succ K => rw [e, Ps.postLoop, hi]; rfl
theorem PostI.dot {w W : World} {gx n vc : Nat} {o : O Nd} {x : Nd} {va : Option Addr} {ks : List (Nd × Value)} {r : List Lx.T} (h : PostI p F w gx o n x va vc ks r W) (hi : Ps.is [Ps.kDot] r = true) : ∃ K, r.length ≤ K + 1 ∧ o = (Ps.take [Ps.aName] r.tail).bind (dotP F x K) := by
  obtain ⟨K, hK, e⟩ := h.eq
  cases K with
  | zero => exact absurd (List.eq_nil_of_length_eq_zero (by omega)) h.app.len.1
  | succ K => exact ⟨K, hK, by rw [e, Ps.postLoop, if_pos hi]; rfl⟩

set_option maxHeartbeats 1000000 in
theorem post_c (hF : FamC p F k) (hW : Ways p F k) (l : List Lx.T) (w : World) (hk : l.length ≤ k + 1) (hp : Pst p l w) : Calls Tryz.prog 139 #[.pointer (some ⟨p.B, 0, none⟩)] w (NodePost p l (Ps.post F l) w) := by
  obtain ⟨W0, hW0⟩ : ∃ W0, w.alloc (.cells pzN nT) = W0 := ⟨_, rfl⟩
  have k0 : Kept w W0 := by rw [← hW0]; exact (Kept.refl w).alloc _
  have HZ0 := Lib.hid (show w.heap.size + 1 ≤ W0.heap.size by rw [← hW0]; simp)
  have HB0 := Lib.hid (show Blk W0 w.heap.size nT pzN by rw [← hW0]; exact Blk.new _ _ _)
  have HP0 := Lib.hid (hp.kept k0)
  have HN := Lib.hid hp.lt
  have HO0 := Lib.hid (show Only (· = p.B) w W0 from Only.of_kept k0)
  have HKM := Lib.hid (show l.length ≤ 30000 from hp.len)
  have HW0 := Lib.hid hW0
  have HKL := Lib.hid hk
  clear hp k0 hW0 hk
  have hf1 := field_tok1
  have hf2 := field_tok2
  go_enter Tryz.func139, Tryz.ntmps139
  go_wp2_with (rw [HW0.out])
  refine (prim_c hW l _ HKL.out HP0.out).mono ?_
  rintro e w1 (⟨x1, ks1, r1, v1, h1, rfl, hx, hk, h4, h5, hok, h7⟩ | ⟨q, hb, rfl, ho⟩)
  rotate_left
  · have HH := Lib.hid (show Ps.post F l = .bad q ∧ Only (· = p.B) w w1 from ⟨by simp only [Ps.post, hb, Ps.O.bind_ok, Ps.O.bind_bad, eq_self, if_true, Bool.false_eq_true, if_false], HO0.out.trans ho⟩)
    clear hb ho
    go_wp2_with fail
    exact ⟨rfl, .inr ⟨_, HH.out.1, rfl, HH.out.2⟩⟩
  obtain ⟨va1, vc1, rfl⟩ := hk.slice
  have HKx := Lib.hid (hk.lower HZ0.out)
  have HB1 := Lib.hid (HB0.out.only h5 (by have := HN.out; omega))
  obtain ⟨V1, hV1⟩ : ∃ V, w1.alloc (.cells (ndA x1 (.slice va1 ks1.length vc1)) nT) = V := ⟨_, rfl⟩
  have HM1 := Lib.hid (show PostI p F w w1.heap.size (Ps.post F l) l.length x1 va1 vc1 ks1 r1 V1 from ⟨AppI.new (x := x1) HKx.out HB1.out HN.out h4 (HO0.out.trans h5) rfl hV1, hx, hok, ⟨_, Nat.le_refl _, by simp only [Ps.post, h1, Ps.O.bind_ok]⟩, h7⟩)
  have HV1 := Lib.hid hV1
  clear h1 hx hk h4 h5 hok h7 hV1
  go_wp2_with (rw [HV1.out])
  go_loopw [] (fun wr => ∃ x ks r va vc, Hid (PostI p F w w1.heap.size (Ps.post F l) l.length x va vc ks r wr)) (fun wr => ahead p wr)
  case atStart => exact ⟨_, _, _, _, _, HM1⟩
  case round =>
    obtain ⟨x2, ks2, r2, va2, vc2, HR2⟩ := hrel
    have AR2 := Lib.hid HR2.out.app
    have HAH2 := Lib.hid AR2.out.pst.ahead
    have HC2 := Lib.hid HR2.out.cnt
    have HX2 := Lib.hid (And.intro HR2.out.kids HR2.out.ok)
    go_wp2_with fail
    refine (pskip_c Ps.kDot r2 _ AR2.out.pst (by decide +kernel)).mono ?_
    rintro e w3 (⟨h1, rfl, h2, h3, h4⟩ | ⟨h1, rfl, h2, h3⟩)
    rotate_left
    · have HE3 := Lib.hid (HR2.out.out h1)
      have AI3 := Lib.hid (AR2.out.call h3 h2)
      clear h1 h2 h3
      obtain ⟨z0, z1, z2, z3, z4, z5⟩ := AI3.out.cells
      obtain ⟨⟨y0, y1, y2, y3, y4, y5⟩, f0, f1, f2, f3, f4, f5⟩ := nd_six AI3.out.res
      go_wp2_with fail
      exact AI3.out.end (y := x2) (by rfl) rfl rfl ⟨rfl, rfl, rfl, rfl, rfl⟩ HE3.out HX2.out.1 HX2.out.2 HC2.out
    obtain ⟨K, hK, hKe⟩ := HR2.out.dot h1
    have HK3 := Lib.hid hK
    have HE3 := Lib.hid hKe
    have HL3 := Lib.hid h4
    have AI3 := Lib.hid (AR2.out.call h3 h2)
    clear h1 h2 h3 h4 hK hKe
    go_wp2_with fail
    obtain ⟨D3, hD3⟩ : ∃ D, w3.drew = D := ⟨_, rfl⟩
    have AD3 := Lib.hid (show AppI p w w1.heap.size x2 (.slice va2 ks2.length vc2) ks2 r2.tail D3 by rw [← hD3]; exact AI3.out.drew)
    have HD3 := Lib.hid hD3
    have HS3 := Lib.hid (show _ from (AD3.out.cells))
    rw [← HD3.out] at HS3
    clear hD3
    refine wp_region_till (S := (fun W => W.cell? ⟨w1.heap.size, 0, none⟩ = some (.int .i64 x2.kind) ∧ W.cell? ⟨w1.heap.size, 1, none⟩ = some (.string x2.text) ∧ W.cell? ⟨w1.heap.size, 2, none⟩ = some (.string x2.typ) ∧ W.cell? ⟨w1.heap.size, 3, none⟩ = some (.string x2.frm) ∧ W.cell? ⟨w1.heap.size, 4, none⟩ = some (.int .i64 x2.n) ∧ W.cell? ⟨w1.heap.size, 5, none⟩ = some (.slice va2 ks2.length vc2))) 7 (by kernel_rfl) HS3.out (fun hHeld0 => ?_)
    rw [HD3.out] at hHeld0 ⊢
    refine wpAnyT_take (i := 0) (v := ?_) rfl (by kernel_rfl) (by kernel_rfl) (by kernel_rfl) (fun _ _ _ h => h) (Or.inl ⟨by kernel_rfl, ?_⟩) (by assumption) ?_
    rotate_left
    · intro w hSw; (try dsimp only at hSw); go_simp; (try with_reducible rfl)
    (try simp only [Act.put, List.getElem_toArray, List.getElem_cons_zero, List.getElem_cons_succ, List.setIfInBounds_toArray, List.set_cons_zero, List.set_cons_succ])
    refine wpAnyT_take (i := 4) (v := ?_) rfl (by kernel_rfl) (by kernel_rfl) (by kernel_rfl) (fun _ _ _ h => h) (Or.inl ⟨by kernel_rfl, ?_⟩) (by assumption) ?_
    rotate_left
    · intro w hSw; (try dsimp only at hSw); go_simp; (try with_reducible rfl)
    (try simp only [Act.put, List.getElem_toArray, List.getElem_cons_zero, List.getElem_cons_succ, List.setIfInBounds_toArray, List.set_cons_zero, List.set_cons_succ])
    refine wpAnyT_ready (rs := [1, 5]) (by kernel_rfl) (by simp) ?_
    refine AllReadyT.cons rfl (fun K hK => ?_) (AllReadyT.cons rfl (fun K hK => ?_) AllReadyT.nil)
    · obtain ⟨M1, hM1⟩ : ∃ M, D3.alloc (.cells #[.string Ps.aName] 9) = M := ⟨_, rfl⟩
      have kM1 : Kept D3 M1 := by rw [← hM1]; exact (Kept.refl _).alloc _
      have HBS := Lib.hid (show Blk M1 D3.heap.size 9 #[.string Ps.aName] by rw [← hM1]; exact Blk.new _ _ _)
      have AIM1 := Lib.hid (AD3.out.kept kM1)
      have HHM1 := Lib.hid hM1
      clear hM1 kM1
      go_simp
      rw [HHM1.out]
      refine hK.out _ _ AIM1.out.cells (fun hHeld1 => ?_)
      clear hK K
      (try simp only [Act.put, List.getElem_toArray, List.getElem_cons_zero, List.getElem_cons_succ, List.setIfInBounds_toArray, List.set_cons_zero, List.set_cons_succ])
      clear hHeld0
      refine wpAnyT_ready (rs := [2, 5]) (by kernel_rfl) (by simp) ?_
      refine AllReadyT.cons rfl (fun K hK => ?_) (AllReadyT.cons rfl (fun K hK => ?_) AllReadyT.nil)
      · go_simp
        refine (take_k Ps.aName AIM1.out.pst HBS.out (by decide +kernel)).mono ?_
        rintro e w4 (⟨t4, r4, h1, h2, rfl, h4, h5, h6⟩ | ⟨q, hb, rfl, ho⟩)
        rotate_left
        · have HH := Lib.hid (show Ps.post F l = .bad q ∧ Only (· = p.B) w w4 from ⟨by simp only [HE3.out, hb, Ps.O.bind_ok, Ps.O.bind_bad, eq_self, if_true, Bool.false_eq_true, if_false], AIM1.out.only.trans ho⟩)
          clear hb ho
          exact ⟨rfl, .inr ⟨_, HH.out.1, rfl, HH.out.2⟩⟩
        have HE4 := Lib.hid h1
        have HT4 := Lib.hid h6
        have HL4 := Lib.hid (show r4.length + 1 = r2.tail.length by rw [h2]; rfl)
        have AI4 := Lib.hid (AIM1.out.call h5 h4)
        refine hK.out _ _ AI4.out.cells (fun hHeld2 => ?_)
        clear hK K
        (try simp only [Act.put, List.getElem_toArray, List.getElem_cons_zero, List.getElem_cons_succ, List.setIfInBounds_toArray, List.set_cons_zero, List.set_cons_succ])
        clear h1 h2 h4 h5 h6 hHeld1
        refine wpAnyT_take (i := 3) (v := ?_) rfl (by kernel_rfl) (by kernel_rfl) (by kernel_rfl) (fun _ _ _ h => h) (Or.inl ⟨by kernel_rfl, ?_⟩) (by assumption) ?_
        rotate_left
        · intro w hSw; (try dsimp only at hSw); go_simp; (try with_reducible rfl)
        (try simp only [Act.put, List.getElem_toArray, List.getElem_cons_zero, List.getElem_cons_succ, List.setIfInBounds_toArray, List.set_cons_zero, List.set_cons_succ])
        refine wpAnyT_ready (rs := [5]) (by kernel_rfl) (by simp) ?_
        refine AllReadyT.cons rfl (fun K hK => ?_) AllReadyT.nil
        obtain ⟨M3, hM3⟩ : ∃ M, w4.alloc (.cells (ndA x2 (.slice va2 ks2.length vc2)) nT) = M := ⟨_, rfl⟩
        have kM3 : Kept w4 M3 := by rw [← hM3]; exact (Kept.refl _).alloc _
        have HKR := Lib.hid (AI4.out.lit1 HX2.out.1 HX2.out.2)
        rw [hM3] at HKR
        have AIM3 := Lib.hid (AI4.out.kept kM3)
        have HHM3 := Lib.hid hM3
        clear hM3 kM3
        go_simp
        rw [HHM3.out]
        refine hK.out _ _ AIM3.out.cells (fun hHeld3 => ?_)
        clear hK K
        (try simp only [Act.put, List.getElem_toArray, List.getElem_cons_zero, List.getElem_cons_succ, List.setIfInBounds_toArray, List.set_cons_zero, List.set_cons_succ])
        clear hHeld2
        refine wpAnyT_take (i := 6) (v := ?_) rfl (by kernel_rfl) (by kernel_rfl) (by kernel_rfl) (fun _ _ _ h => h) (Or.inl ⟨by kernel_rfl, ?_⟩) (by assumption) ?_
        rotate_left
        · intro w hSw; (try dsimp only at hSw); go_simp; (try with_reducible rfl)
        (try simp only [Act.put, List.getElem_toArray, List.getElem_cons_zero, List.getElem_cons_succ, List.setIfInBounds_toArray, List.set_cons_zero, List.set_cons_succ])
        obtain ⟨_, g0, g1, g2, g3, g4, g5⟩ := nd_six AIM3.out.box
        clear hHeld3
        refine wpAnyT_ready (rs := [7]) (by kernel_rfl) (by simp) ?_
        refine AllReadyT.fin rfl (fun K hK => ?_)
        go_simp
        refine hK.out _ _ ?_
        clear hK K
        (try simp only [Act.put, List.getElem_toArray, List.getElem_cons_zero, List.getElem_cons_succ, List.setIfInBounds_toArray, List.set_cons_zero, List.set_cons_succ])
        refine wpAnyT_done (by kernel_rfl) ?_ _
        clear g0 g1 g2 g3 g4 g5
        have hai := AIM3.out.put HKR.out.1 HKR.out.2 (Ps.nd 17 t4.text Ps.e0 0 [x2])
        obtain ⟨W7, hW7⟩ : ∃ W7, put6n M3 w1.heap.size (Ps.nd 17 t4.text Ps.e0 0 [x2]) (.slice (some ⟨w4.heap.size, 0, none⟩) 1 1) = W7 := ⟨_, rfl⟩
        rw [hW7] at hai
        have AI7 := Lib.hid hai
        have HW7 := Lib.hid (show (((((M3.setCell ⟨w1.heap.size, 0, none⟩ (.int .i64 17)).setCell ⟨w1.heap.size, 1, none⟩ (.string t4.text)).setCell ⟨w1.heap.size, 2, none⟩ (.string Ps.e0)).setCell ⟨w1.heap.size, 3, none⟩ (.string Ps.e0)).setCell ⟨w1.heap.size, 4, none⟩ (.int .i64 0)).setCell ⟨w1.heap.size, 5, none⟩ (.slice (some ⟨w4.heap.size, 0, none⟩) 1 1) = W7 from hW7)
        clear hai hW7
        rw [HW7.out]
        go_wp2_with fail
        refine (is_l [Ps.kOpen] (ty := 9) AI7.out.pst rfl rfl rfl (by decide)).mono ?_
        rintro e w8 ⟨he, k8⟩
        have AI8 := Lib.hid (AI7.out.kept k8)
        cases hi : Ps.is [Ps.kOpen] r4 with
        | false =>
          rw [hi] at he
          subst he
          have HM2 := Lib.hid (show PostI p F w w1.heap.size (Ps.post F l) l.length (Ps.nd 17 t4.text Ps.e0 0 [x2]) (some ⟨w4.heap.size, 0, none⟩) 1 [(x2, .slice va2 ks2.length vc2)] r4 w8 from ⟨AI8.out, rfl, nd_ok1 _ _ _ _ _ (by decide) HT4.out.2.1 e0_size (by decide), ⟨K, by have := HK3.out; have := HL3.out; have := HL4.out; omega, by
            rw [HE3.out, HE4.out, Ps.O.bind_ok, dotP, hi]; rfl⟩, by
            rw [count_nd, Nd.countL_cons, Nd.countL_nil]; have := HC2.out; have := HL3.out; have := HL4.out; omega⟩)
          clear hi k8
          go_wp2_with fail
          go_roundw
          case rel => exact ⟨_, _, _, _, _, HM2⟩
          case measure =>
            have h1 := HM2.out.app.pst.ahead
            have h2 := HAH2.out
            have h3 := HL3.out
            have h4 := HL4.out
            rw [h1, h2]; omega
        | true =>
          rw [hi] at he
          subst he
          have HI8 := Lib.hid hi
          clear hi k8
          obtain ⟨⟨z0, z1, z2, z3, z4, z5⟩, g0, g1, g2, g3, g4, g5⟩ := nd_six AI8.out.box
          have hai := AI8.out.setKind (x' := Ps.nd 19 t4.text Ps.e0 0 [x2]) ⟨rfl, rfl, rfl, rfl⟩
          obtain ⟨W9, hW9⟩ : ∃ W9, w8.setCell ⟨w1.heap.size, 0, none⟩ (.int .i64 19) = W9 := ⟨_, rfl⟩
          rw [show w8.setCell ⟨w1.heap.size, 0, none⟩ (.int .i64 (Ps.nd 19 t4.text Ps.e0 0 [x2]).kind) = W9 from hW9] at hai
          have AI9 := Lib.hid hai
          have HW9 := Lib.hid hW9
          clear hai hW9
          go_wp2_with (rw [HW9.out])
          clear z0 z1 z2 z3 z4 z5 g0 g1 g2 g3 g4 g5
          refine wp_region_till (S := (fun W => W.cell? ⟨w1.heap.size, 5, none⟩ = some (.slice (some ⟨w4.heap.size, 0, none⟩) 1 1))) 6 (by kernel_rfl) (AI9.out.drew.cell5) (fun hHeld0 => ?_)
          refine wpAnyT_take (i := 0) (v := ?_) rfl (by kernel_rfl) (by kernel_rfl) (by kernel_rfl) (fun _ _ _ h => h) (Or.inl ⟨by kernel_rfl, ?_⟩) (by assumption) ?_
          rotate_left
          · intro w hSw; (try dsimp only at hSw); go_simp; (try with_reducible rfl)
          (try simp only [Act.put, List.getElem_toArray, List.getElem_cons_zero, List.getElem_cons_succ, List.setIfInBounds_toArray, List.set_cons_zero, List.set_cons_succ])
          refine wpAnyT_take (i := 1) (v := ?_) rfl (by kernel_rfl) (by kernel_rfl) (by kernel_rfl) (fun _ _ _ h => h) (Or.inl ⟨by kernel_rfl, ?_⟩) (by assumption) ?_
          rotate_left
          · intro w hSw; (try dsimp only at hSw); go_simp; (try with_reducible rfl)
          (try simp only [Act.put, List.getElem_toArray, List.getElem_cons_zero, List.getElem_cons_succ, List.setIfInBounds_toArray, List.set_cons_zero, List.set_cons_succ])
          refine wpAnyT_take (i := 2) (v := ?_) rfl (by kernel_rfl) (by kernel_rfl) (by kernel_rfl) (fun _ _ _ h => h) (Or.inl ⟨by kernel_rfl, ?_⟩) (by assumption) ?_
          rotate_left
          · intro w hSw; (try dsimp only at hSw); go_simp; (try with_reducible rfl)
          (try simp only [Act.put, List.getElem_toArray, List.getElem_cons_zero, List.getElem_cons_succ, List.setIfInBounds_toArray, List.set_cons_zero, List.set_cons_succ])
          refine wpAnyT_ready (rs := [3]) (by kernel_rfl) (by simp) ?_
          refine AllReadyT.cons rfl (fun K hK => ?_) AllReadyT.nil
          go_simp
          refine (args_c hF r4 _ (by have := HKL.out; have := HC2.out; have := HL3.out; have := HL4.out; omega) AI9.out.drew.pst).mono ?_
          rintro e w10 (⟨ks10, r10, v10, h1, rfl, hk, h4, h5, h7⟩ | ⟨q, hb, rfl, ho⟩)
          rotate_left
          · have HH := Lib.hid (show Ps.post F l = .bad q ∧ Only (· = p.B) w w10 from ⟨by rw [HE3.out, HE4.out, Ps.O.bind_ok, dotP, if_pos HI8.out, hb]; rfl, AI9.out.drew.only.trans ho⟩)
            clear hb ho
            exact ⟨rfl, .inr ⟨_, HH.out.1, rfl, HH.out.2⟩⟩
          have HE10 := Lib.hid h1
          have HL10 := Lib.hid h7
          have AI10 := Lib.hid (AI9.out.drew.call h5 h4)
          obtain ⟨va10, vc10, rfl⟩ := hk.slice
          obtain ⟨_, _, _, _, hs10⟩ := hk.src
          have HS10 := Lib.hid hs10
          have H210 := Lib.hid (KRowD.behind AI9.out.drew.row hk (Nat.le_refl _) (fun k hk => ⟨Nat.le_trans AI9.out.drew.size hk, by have := AI9.out.drew.box.lt; omega⟩))
          have HM := Lib.hid (show ks10.length ≤ 50000 by have := map_fst_len ks10; have := HL10.out; have := HKM.out; have := HC2.out; have := HL3.out; have := HL4.out; omega)
          refine hK.out _ _ AI10.out.cell5 (fun hHeld1 => ?_)
          clear hK K
          (try simp only [Act.put, List.getElem_toArray, List.getElem_cons_zero, List.getElem_cons_succ, List.setIfInBounds_toArray, List.set_cons_zero, List.set_cons_succ])
          clear h1 hk h4 h5 h7 hs10 hHeld0
          refine wpAnyT_ready (rs := [4]) (by kernel_rfl) (by simp) ?_
          refine AllReadyT.cons rfl (fun K hK => ?_) AllReadyT.nil
          refine step_nd (k2 := ks10) (.tmp 20) (.tmp 22) rfl rfl rfl AI10.out.row rfl HS10.out H210.out AI10.out.size (by have := HM.out; simp; omega) ?_
          intro ka kc wa hr ho hl
          obtain ⟨q0, q1, q2⟩ := AI10.out.more hr ho hl
          refine hK.out _ _ q0 (fun hHeld2 => ?_)
          clear hK K
          (try simp only [Act.put, List.getElem_toArray, List.getElem_cons_zero, List.getElem_cons_succ, List.setIfInBounds_toArray, List.set_cons_zero, List.set_cons_succ])
          refine wpAnyT_take (i := 5) (v := ?_) rfl (by kernel_rfl) (by kernel_rfl) (by kernel_rfl) (fun _ _ _ h => h) (Or.inl ⟨by kernel_rfl, ?_⟩) (by assumption) ?_
          rotate_left
          · intro w hSw; (try dsimp only at hSw); go_simp; (try with_reducible rfl)
          (try simp only [Act.put, List.getElem_toArray, List.getElem_cons_zero, List.getElem_cons_succ, List.setIfInBounds_toArray, List.set_cons_zero, List.set_cons_succ])
          clear hr ho hl hHeld1 hHeld2
          refine wpAnyT_ready (rs := [6]) (by kernel_rfl) (by simp) ?_
          refine AllReadyT.fin rfl (fun K hK => ?_)
          go_simp
          refine hK.out _ _ ?_
          clear hK K
          (try simp only [Act.put, List.getElem_toArray, List.getElem_cons_zero, List.getElem_cons_succ, List.setIfInBounds_toArray, List.set_cons_zero, List.set_cons_succ])
          refine wpAnyT_done (by kernel_rfl) ?_ _
          obtain ⟨W11, hW11⟩ : ∃ W11, wa.setCell ⟨w1.heap.size, 5, none⟩ (.slice ka (1 + ks10.length) kc) = W11 := ⟨_, rfl⟩
          rw [show wa.setCell ⟨w1.heap.size, 5, none⟩ (.slice ka ([(x2, Value.slice va2 ks2.length vc2)].length + ks10.length) kc) = W11 from hW11] at q2
          have hq2 : AppI p w w1.heap.size (Ps.nd 19 t4.text Ps.e0 0 (x2 :: ks10.map (·.1))) (.slice ka ((x2, Value.slice va2 ks2.length vc2) :: ks10).length kc) ((x2, .slice va2 ks2.length vc2) :: ks10) r10 W11 := by
            have e : ((x2, Value.slice va2 ks2.length vc2) :: ks10).length = [(x2, Value.slice va2 ks2.length vc2)].length + ks10.length := by simp; omega
            rw [e]
            exact ⟨q2.box, q2.row, q2.ne, q2.res, q2.gx, q2.pst, q2.only⟩
          have HM2 := Lib.hid (show PostI p F w w1.heap.size (Ps.post F l) l.length (Ps.nd 19 t4.text Ps.e0 0 (x2 :: ks10.map (·.1))) ka kc ((x2, .slice va2 ks2.length vc2) :: ks10) r10 W11 from ⟨hq2, rfl, nd_ok1 _ _ _ _ _ (by decide) HT4.out.2.1 e0_size (by decide), ⟨K, by have := HK3.out; have := HL3.out; have := HL4.out; have := HL10.out; omega, by
            rw [HE3.out, HE4.out, Ps.O.bind_ok, dotP, if_pos HI8.out, HE10.out]; rfl⟩, by
            rw [count_nd, Nd.countL_cons]; have := HC2.out; have := HL3.out; have := HL4.out; have := HL10.out; omega⟩)
          have HW11 := Lib.hid hW11
          clear hq2 q0 q1 q2 hW11
          rw [HW11.out]
          go_wp2_with fail
          go_roundw
          case rel => exact ⟨_, _, _, _, _, HM2⟩
          case measure =>
            have h1 := HM2.out.app.pst.ahead
            have h2 := HAH2.out
            have h3 := HL3.out
            have h4 := HL4.out
            have h5 := HL10.out
            rw [h1, h2]; omega
      · obtain ⟨M2, hM2⟩ : ∃ M, M1.alloc (.cells (ndA x2 (.slice va2 ks2.length vc2)) nT) = M := ⟨_, rfl⟩
        have kM2 : Kept M1 M2 := by rw [← hM2]; exact (Kept.refl _).alloc _
        have HKR := Lib.hid (AIM1.out.lit1 HX2.out.1 HX2.out.2)
        rw [hM2] at HKR
        replace HBS := Lib.hid (HBS.out.kept kM2)
        have AIM2 := Lib.hid (AIM1.out.kept kM2)
        have HHM2 := Lib.hid hM2
        clear hM2 kM2
        go_simp
        rw [HHM2.out]
        refine hK.out _ _ AIM2.out.cells (fun hHeld2 => ?_)
        clear hK K
        (try simp only [Act.put, List.getElem_toArray, List.getElem_cons_zero, List.getElem_cons_succ, List.setIfInBounds_toArray, List.set_cons_zero, List.set_cons_succ])
        clear hHeld1
        refine wpAnyT_ready (rs := [2]) (by kernel_rfl) (by simp) ?_
        refine AllReadyT.cons rfl (fun K hK => ?_) AllReadyT.nil
        go_simp
        refine (take_k Ps.aName AIM2.out.pst HBS.out (by decide +kernel)).mono ?_
        rintro e w4 (⟨t4, r4, h1, h2, rfl, h4, h5, h6⟩ | ⟨q, hb, rfl, ho⟩)
        rotate_left
        · have HH := Lib.hid (show Ps.post F l = .bad q ∧ Only (· = p.B) w w4 from ⟨by simp only [HE3.out, hb, Ps.O.bind_ok, Ps.O.bind_bad, eq_self, if_true, Bool.false_eq_true, if_false], AIM2.out.only.trans ho⟩)
          clear hb ho
          exact ⟨rfl, .inr ⟨_, HH.out.1, rfl, HH.out.2⟩⟩
        have HE4 := Lib.hid h1
        have HT4 := Lib.hid h6
        have HL4 := Lib.hid (show r4.length + 1 = r2.tail.length by rw [h2]; rfl)
        have AI4 := Lib.hid (AIM2.out.call h5 h4)
        replace HKR := Lib.hid (And.intro (HKR.out.1.call h5 (by have := HN.out; omega)) HKR.out.2)
        refine hK.out _ _ AI4.out.cells (fun hHeld3 => ?_)
        clear hK K
        (try simp only [Act.put, List.getElem_toArray, List.getElem_cons_zero, List.getElem_cons_succ, List.setIfInBounds_toArray, List.set_cons_zero, List.set_cons_succ])
        clear h1 h2 h4 h5 h6 hHeld2
        refine wpAnyT_take (i := 3) (v := ?_) rfl (by kernel_rfl) (by kernel_rfl) (by kernel_rfl) (fun _ _ _ h => h) (Or.inl ⟨by kernel_rfl, ?_⟩) (by assumption) ?_
        rotate_left
        · intro w hSw; (try dsimp only at hSw); go_simp; (try with_reducible rfl)
        (try simp only [Act.put, List.getElem_toArray, List.getElem_cons_zero, List.getElem_cons_succ, List.setIfInBounds_toArray, List.set_cons_zero, List.set_cons_succ])
        refine wpAnyT_take (i := 6) (v := ?_) rfl (by kernel_rfl) (by kernel_rfl) (by kernel_rfl) (fun _ _ _ h => h) (Or.inl ⟨by kernel_rfl, ?_⟩) (by assumption) ?_
        rotate_left
        · intro w hSw; (try dsimp only at hSw); go_simp; (try with_reducible rfl)
        (try simp only [Act.put, List.getElem_toArray, List.getElem_cons_zero, List.getElem_cons_succ, List.setIfInBounds_toArray, List.set_cons_zero, List.set_cons_succ])
        obtain ⟨_, g0, g1, g2, g3, g4, g5⟩ := nd_six AI4.out.box
        clear hHeld3
        refine wpAnyT_ready (rs := [7]) (by kernel_rfl) (by simp) ?_
        refine AllReadyT.fin rfl (fun K hK => ?_)
        go_simp
        refine hK.out _ _ ?_
        clear hK K
        (try simp only [Act.put, List.getElem_toArray, List.getElem_cons_zero, List.getElem_cons_succ, List.setIfInBounds_toArray, List.set_cons_zero, List.set_cons_succ])
        refine wpAnyT_done (by kernel_rfl) ?_ _
        clear g0 g1 g2 g3 g4 g5
        have hai := AI4.out.put HKR.out.1 HKR.out.2 (Ps.nd 17 t4.text Ps.e0 0 [x2])
        obtain ⟨W7, hW7⟩ : ∃ W7, put6n w4 w1.heap.size (Ps.nd 17 t4.text Ps.e0 0 [x2]) (.slice (some ⟨M1.heap.size, 0, none⟩) 1 1) = W7 := ⟨_, rfl⟩
        rw [hW7] at hai
        have AI7 := Lib.hid hai
        have HW7 := Lib.hid (show (((((w4.setCell ⟨w1.heap.size, 0, none⟩ (.int .i64 17)).setCell ⟨w1.heap.size, 1, none⟩ (.string t4.text)).setCell ⟨w1.heap.size, 2, none⟩ (.string Ps.e0)).setCell ⟨w1.heap.size, 3, none⟩ (.string Ps.e0)).setCell ⟨w1.heap.size, 4, none⟩ (.int .i64 0)).setCell ⟨w1.heap.size, 5, none⟩ (.slice (some ⟨M1.heap.size, 0, none⟩) 1 1) = W7 from hW7)
        clear hai hW7
        rw [HW7.out]
        go_wp2_with fail
        refine (is_l [Ps.kOpen] (ty := 9) AI7.out.pst rfl rfl rfl (by decide)).mono ?_
        rintro e w8 ⟨he, k8⟩
        have AI8 := Lib.hid (AI7.out.kept k8)
        cases hi : Ps.is [Ps.kOpen] r4 with
        | false =>
          rw [hi] at he
          subst he
          have HM2 := Lib.hid (show PostI p F w w1.heap.size (Ps.post F l) l.length (Ps.nd 17 t4.text Ps.e0 0 [x2]) (some ⟨M1.heap.size, 0, none⟩) 1 [(x2, .slice va2 ks2.length vc2)] r4 w8 from ⟨AI8.out, rfl, nd_ok1 _ _ _ _ _ (by decide) HT4.out.2.1 e0_size (by decide), ⟨K, by have := HK3.out; have := HL3.out; have := HL4.out; omega, by
            rw [HE3.out, HE4.out, Ps.O.bind_ok, dotP, hi]; rfl⟩, by
            rw [count_nd, Nd.countL_cons, Nd.countL_nil]; have := HC2.out; have := HL3.out; have := HL4.out; omega⟩)
          clear hi k8
          go_wp2_with fail
          go_roundw
          case rel => exact ⟨_, _, _, _, _, HM2⟩
          case measure =>
            have h1 := HM2.out.app.pst.ahead
            have h2 := HAH2.out
            have h3 := HL3.out
            have h4 := HL4.out
            rw [h1, h2]; omega
        | true =>
          rw [hi] at he
          subst he
          have HI8 := Lib.hid hi
          clear hi k8
          obtain ⟨⟨z0, z1, z2, z3, z4, z5⟩, g0, g1, g2, g3, g4, g5⟩ := nd_six AI8.out.box
          have hai := AI8.out.setKind (x' := Ps.nd 19 t4.text Ps.e0 0 [x2]) ⟨rfl, rfl, rfl, rfl⟩
          obtain ⟨W9, hW9⟩ : ∃ W9, w8.setCell ⟨w1.heap.size, 0, none⟩ (.int .i64 19) = W9 := ⟨_, rfl⟩
          rw [show w8.setCell ⟨w1.heap.size, 0, none⟩ (.int .i64 (Ps.nd 19 t4.text Ps.e0 0 [x2]).kind) = W9 from hW9] at hai
          have AI9 := Lib.hid hai
          have HW9 := Lib.hid hW9
          clear hai hW9
          go_wp2_with (rw [HW9.out])
          clear z0 z1 z2 z3 z4 z5 g0 g1 g2 g3 g4 g5
          refine wp_region_till (S := (fun W => W.cell? ⟨w1.heap.size, 5, none⟩ = some (.slice (some ⟨M1.heap.size, 0, none⟩) 1 1))) 6 (by kernel_rfl) (AI9.out.drew.cell5) (fun hHeld0 => ?_)
          refine wpAnyT_take (i := 0) (v := ?_) rfl (by kernel_rfl) (by kernel_rfl) (by kernel_rfl) (fun _ _ _ h => h) (Or.inl ⟨by kernel_rfl, ?_⟩) (by assumption) ?_
          rotate_left
          · intro w hSw; (try dsimp only at hSw); go_simp; (try with_reducible rfl)
          (try simp only [Act.put, List.getElem_toArray, List.getElem_cons_zero, List.getElem_cons_succ, List.setIfInBounds_toArray, List.set_cons_zero, List.set_cons_succ])
          refine wpAnyT_take (i := 1) (v := ?_) rfl (by kernel_rfl) (by kernel_rfl) (by kernel_rfl) (fun _ _ _ h => h) (Or.inl ⟨by kernel_rfl, ?_⟩) (by assumption) ?_
          rotate_left
          · intro w hSw; (try dsimp only at hSw); go_simp; (try with_reducible rfl)
          (try simp only [Act.put, List.getElem_toArray, List.getElem_cons_zero, List.getElem_cons_succ, List.setIfInBounds_toArray, List.set_cons_zero, List.set_cons_succ])
          refine wpAnyT_take (i := 2) (v := ?_) rfl (by kernel_rfl) (by kernel_rfl) (by kernel_rfl) (fun _ _ _ h => h) (Or.inl ⟨by kernel_rfl, ?_⟩) (by assumption) ?_
          rotate_left
          · intro w hSw; (try dsimp only at hSw); go_simp; (try with_reducible rfl)
          (try simp only [Act.put, List.getElem_toArray, List.getElem_cons_zero, List.getElem_cons_succ, List.setIfInBounds_toArray, List.set_cons_zero, List.set_cons_succ])
          refine wpAnyT_ready (rs := [3]) (by kernel_rfl) (by simp) ?_
          refine AllReadyT.cons rfl (fun K hK => ?_) AllReadyT.nil
          go_simp
          refine (args_c hF r4 _ (by have := HKL.out; have := HC2.out; have := HL3.out; have := HL4.out; omega) AI9.out.drew.pst).mono ?_
          rintro e w10 (⟨ks10, r10, v10, h1, rfl, hk, h4, h5, h7⟩ | ⟨q, hb, rfl, ho⟩)
          rotate_left
          · have HH := Lib.hid (show Ps.post F l = .bad q ∧ Only (· = p.B) w w10 from ⟨by rw [HE3.out, HE4.out, Ps.O.bind_ok, dotP, if_pos HI8.out, hb]; rfl, AI9.out.drew.only.trans ho⟩)
            clear hb ho
            exact ⟨rfl, .inr ⟨_, HH.out.1, rfl, HH.out.2⟩⟩
          have HE10 := Lib.hid h1
          have HL10 := Lib.hid h7
          have AI10 := Lib.hid (AI9.out.drew.call h5 h4)
          obtain ⟨va10, vc10, rfl⟩ := hk.slice
          obtain ⟨_, _, _, _, hs10⟩ := hk.src
          have HS10 := Lib.hid hs10
          have H210 := Lib.hid (KRowD.behind AI9.out.drew.row hk (Nat.le_refl _) (fun k hk => ⟨Nat.le_trans AI9.out.drew.size hk, by have := AI9.out.drew.box.lt; omega⟩))
          have HM := Lib.hid (show ks10.length ≤ 50000 by have := map_fst_len ks10; have := HL10.out; have := HKM.out; have := HC2.out; have := HL3.out; have := HL4.out; omega)
          refine hK.out _ _ AI10.out.cell5 (fun hHeld1 => ?_)
          clear hK K
          (try simp only [Act.put, List.getElem_toArray, List.getElem_cons_zero, List.getElem_cons_succ, List.setIfInBounds_toArray, List.set_cons_zero, List.set_cons_succ])
          clear h1 hk h4 h5 h7 hs10 hHeld0
          refine wpAnyT_ready (rs := [4]) (by kernel_rfl) (by simp) ?_
          refine AllReadyT.cons rfl (fun K hK => ?_) AllReadyT.nil
          refine step_nd (k2 := ks10) (.tmp 20) (.tmp 22) rfl rfl rfl AI10.out.row rfl HS10.out H210.out AI10.out.size (by have := HM.out; simp; omega) ?_
          intro ka kc wa hr ho hl
          obtain ⟨q0, q1, q2⟩ := AI10.out.more hr ho hl
          refine hK.out _ _ q0 (fun hHeld2 => ?_)
          clear hK K
          (try simp only [Act.put, List.getElem_toArray, List.getElem_cons_zero, List.getElem_cons_succ, List.setIfInBounds_toArray, List.set_cons_zero, List.set_cons_succ])
          refine wpAnyT_take (i := 5) (v := ?_) rfl (by kernel_rfl) (by kernel_rfl) (by kernel_rfl) (fun _ _ _ h => h) (Or.inl ⟨by kernel_rfl, ?_⟩) (by assumption) ?_
          rotate_left
          · intro w hSw; (try dsimp only at hSw); go_simp; (try with_reducible rfl)
          (try simp only [Act.put, List.getElem_toArray, List.getElem_cons_zero, List.getElem_cons_succ, List.setIfInBounds_toArray, List.set_cons_zero, List.set_cons_succ])
          clear hr ho hl hHeld1 hHeld2
          refine wpAnyT_ready (rs := [6]) (by kernel_rfl) (by simp) ?_
          refine AllReadyT.fin rfl (fun K hK => ?_)
          go_simp
          refine hK.out _ _ ?_
          clear hK K
          (try simp only [Act.put, List.getElem_toArray, List.getElem_cons_zero, List.getElem_cons_succ, List.setIfInBounds_toArray, List.set_cons_zero, List.set_cons_succ])
          refine wpAnyT_done (by kernel_rfl) ?_ _
          obtain ⟨W11, hW11⟩ : ∃ W11, wa.setCell ⟨w1.heap.size, 5, none⟩ (.slice ka (1 + ks10.length) kc) = W11 := ⟨_, rfl⟩
          rw [show wa.setCell ⟨w1.heap.size, 5, none⟩ (.slice ka ([(x2, Value.slice va2 ks2.length vc2)].length + ks10.length) kc) = W11 from hW11] at q2
          have hq2 : AppI p w w1.heap.size (Ps.nd 19 t4.text Ps.e0 0 (x2 :: ks10.map (·.1))) (.slice ka ((x2, Value.slice va2 ks2.length vc2) :: ks10).length kc) ((x2, .slice va2 ks2.length vc2) :: ks10) r10 W11 := by
            have e : ((x2, Value.slice va2 ks2.length vc2) :: ks10).length = [(x2, Value.slice va2 ks2.length vc2)].length + ks10.length := by simp; omega
            rw [e]
            exact ⟨q2.box, q2.row, q2.ne, q2.res, q2.gx, q2.pst, q2.only⟩
          have HM2 := Lib.hid (show PostI p F w w1.heap.size (Ps.post F l) l.length (Ps.nd 19 t4.text Ps.e0 0 (x2 :: ks10.map (·.1))) ka kc ((x2, .slice va2 ks2.length vc2) :: ks10) r10 W11 from ⟨hq2, rfl, nd_ok1 _ _ _ _ _ (by decide) HT4.out.2.1 e0_size (by decide), ⟨K, by have := HK3.out; have := HL3.out; have := HL4.out; have := HL10.out; omega, by
            rw [HE3.out, HE4.out, Ps.O.bind_ok, dotP, if_pos HI8.out, HE10.out]; rfl⟩, by
            rw [count_nd, Nd.countL_cons]; have := HC2.out; have := HL3.out; have := HL4.out; have := HL10.out; omega⟩)
          have HW11 := Lib.hid hW11
          clear hq2 q0 q1 q2 hW11
          rw [HW11.out]
          go_wp2_with fail
          go_roundw
          case rel => exact ⟨_, _, _, _, _, HM2⟩
          case measure =>
            have h1 := HM2.out.app.pst.ahead
            have h2 := HAH2.out
            have h3 := HL3.out
            have h4 := HL4.out
            have h5 := HL10.out
            rw [h1, h2]; omega
    · obtain ⟨M1, hM1⟩ : ∃ M, D3.alloc (.cells (ndA x2 (.slice va2 ks2.length vc2)) nT) = M := ⟨_, rfl⟩
      have kM1 : Kept D3 M1 := by rw [← hM1]; exact (Kept.refl _).alloc _
      have HKR := Lib.hid (AD3.out.lit1 HX2.out.1 HX2.out.2)
      rw [hM1] at HKR
      have AIM1 := Lib.hid (AD3.out.kept kM1)
      have HHM1 := Lib.hid hM1
      clear hM1 kM1
      go_simp
      rw [HHM1.out]
      refine hK.out _ _ AIM1.out.cells (fun hHeld1 => ?_)
      clear hK K
      (try simp only [Act.put, List.getElem_toArray, List.getElem_cons_zero, List.getElem_cons_succ, List.setIfInBounds_toArray, List.set_cons_zero, List.set_cons_succ])
      clear hHeld0
      refine wpAnyT_ready (rs := [1]) (by kernel_rfl) (by simp) ?_
      refine AllReadyT.cons rfl (fun K hK => ?_) AllReadyT.nil
      obtain ⟨M2, hM2⟩ : ∃ M, M1.alloc (.cells #[.string Ps.aName] 9) = M := ⟨_, rfl⟩
      have kM2 : Kept M1 M2 := by rw [← hM2]; exact (Kept.refl _).alloc _
      have HBS := Lib.hid (show Blk M2 M1.heap.size 9 #[.string Ps.aName] by rw [← hM2]; exact Blk.new _ _ _)
      replace HKR := Lib.hid (And.intro (KRowD.only (S := fun _ => False) HKR.out.1 (Only.of_kept kM2) (fun _ _ h => h) (fun _ _ h => h)) HKR.out.2)
      have AIM2 := Lib.hid (AIM1.out.kept kM2)
      have HHM2 := Lib.hid hM2
      clear hM2 kM2
      go_simp
      rw [HHM2.out]
      refine hK.out _ _ AIM2.out.cells (fun hHeld2 => ?_)
      clear hK K
      (try simp only [Act.put, List.getElem_toArray, List.getElem_cons_zero, List.getElem_cons_succ, List.setIfInBounds_toArray, List.set_cons_zero, List.set_cons_succ])
      clear hHeld1
      refine wpAnyT_ready (rs := [2]) (by kernel_rfl) (by simp) ?_
      refine AllReadyT.cons rfl (fun K hK => ?_) AllReadyT.nil
      go_simp
      refine (take_k Ps.aName AIM2.out.pst HBS.out (by decide +kernel)).mono ?_
      rintro e w4 (⟨t4, r4, h1, h2, rfl, h4, h5, h6⟩ | ⟨q, hb, rfl, ho⟩)
      rotate_left
      · have HH := Lib.hid (show Ps.post F l = .bad q ∧ Only (· = p.B) w w4 from ⟨by simp only [HE3.out, hb, Ps.O.bind_ok, Ps.O.bind_bad, eq_self, if_true, Bool.false_eq_true, if_false], AIM2.out.only.trans ho⟩)
        clear hb ho
        exact ⟨rfl, .inr ⟨_, HH.out.1, rfl, HH.out.2⟩⟩
      have HE4 := Lib.hid h1
      have HT4 := Lib.hid h6
      have HL4 := Lib.hid (show r4.length + 1 = r2.tail.length by rw [h2]; rfl)
      have AI4 := Lib.hid (AIM2.out.call h5 h4)
      replace HKR := Lib.hid (And.intro (HKR.out.1.call h5 (by have := HN.out; omega)) HKR.out.2)
      refine hK.out _ _ AI4.out.cells (fun hHeld3 => ?_)
      clear hK K
      (try simp only [Act.put, List.getElem_toArray, List.getElem_cons_zero, List.getElem_cons_succ, List.setIfInBounds_toArray, List.set_cons_zero, List.set_cons_succ])
      clear h1 h2 h4 h5 h6 hHeld2
      refine wpAnyT_take (i := 3) (v := ?_) rfl (by kernel_rfl) (by kernel_rfl) (by kernel_rfl) (fun _ _ _ h => h) (Or.inl ⟨by kernel_rfl, ?_⟩) (by assumption) ?_
      rotate_left
      · intro w hSw; (try dsimp only at hSw); go_simp; (try with_reducible rfl)
      (try simp only [Act.put, List.getElem_toArray, List.getElem_cons_zero, List.getElem_cons_succ, List.setIfInBounds_toArray, List.set_cons_zero, List.set_cons_succ])
      refine wpAnyT_take (i := 6) (v := ?_) rfl (by kernel_rfl) (by kernel_rfl) (by kernel_rfl) (fun _ _ _ h => h) (Or.inl ⟨by kernel_rfl, ?_⟩) (by assumption) ?_
      rotate_left
      · intro w hSw; (try dsimp only at hSw); go_simp; (try with_reducible rfl)
      (try simp only [Act.put, List.getElem_toArray, List.getElem_cons_zero, List.getElem_cons_succ, List.setIfInBounds_toArray, List.set_cons_zero, List.set_cons_succ])
      obtain ⟨_, g0, g1, g2, g3, g4, g5⟩ := nd_six AI4.out.box
      clear hHeld3
      refine wpAnyT_ready (rs := [7]) (by kernel_rfl) (by simp) ?_
      refine AllReadyT.fin rfl (fun K hK => ?_)
      go_simp
      refine hK.out _ _ ?_
      clear hK K
      (try simp only [Act.put, List.getElem_toArray, List.getElem_cons_zero, List.getElem_cons_succ, List.setIfInBounds_toArray, List.set_cons_zero, List.set_cons_succ])
      refine wpAnyT_done (by kernel_rfl) ?_ _
      clear g0 g1 g2 g3 g4 g5
      have hai := AI4.out.put HKR.out.1 HKR.out.2 (Ps.nd 17 t4.text Ps.e0 0 [x2])
      obtain ⟨W7, hW7⟩ : ∃ W7, put6n w4 w1.heap.size (Ps.nd 17 t4.text Ps.e0 0 [x2]) (.slice (some ⟨D3.heap.size, 0, none⟩) 1 1) = W7 := ⟨_, rfl⟩
      rw [hW7] at hai
      have AI7 := Lib.hid hai
      have HW7 := Lib.hid (show (((((w4.setCell ⟨w1.heap.size, 0, none⟩ (.int .i64 17)).setCell ⟨w1.heap.size, 1, none⟩ (.string t4.text)).setCell ⟨w1.heap.size, 2, none⟩ (.string Ps.e0)).setCell ⟨w1.heap.size, 3, none⟩ (.string Ps.e0)).setCell ⟨w1.heap.size, 4, none⟩ (.int .i64 0)).setCell ⟨w1.heap.size, 5, none⟩ (.slice (some ⟨D3.heap.size, 0, none⟩) 1 1) = W7 from hW7)
      clear hai hW7
      rw [HW7.out]
      go_wp2_with fail
      refine (is_l [Ps.kOpen] (ty := 9) AI7.out.pst rfl rfl rfl (by decide)).mono ?_
      rintro e w8 ⟨he, k8⟩
      have AI8 := Lib.hid (AI7.out.kept k8)
      cases hi : Ps.is [Ps.kOpen] r4 with
      | false =>
        rw [hi] at he
        subst he
        have HM2 := Lib.hid (show PostI p F w w1.heap.size (Ps.post F l) l.length (Ps.nd 17 t4.text Ps.e0 0 [x2]) (some ⟨D3.heap.size, 0, none⟩) 1 [(x2, .slice va2 ks2.length vc2)] r4 w8 from ⟨AI8.out, rfl, nd_ok1 _ _ _ _ _ (by decide) HT4.out.2.1 e0_size (by decide), ⟨K, by have := HK3.out; have := HL3.out; have := HL4.out; omega, by
          rw [HE3.out, HE4.out, Ps.O.bind_ok, dotP, hi]; rfl⟩, by
          rw [count_nd, Nd.countL_cons, Nd.countL_nil]; have := HC2.out; have := HL3.out; have := HL4.out; omega⟩)
        clear hi k8
        go_wp2_with fail
        go_roundw
        case rel => exact ⟨_, _, _, _, _, HM2⟩
        case measure =>
          have h1 := HM2.out.app.pst.ahead
          have h2 := HAH2.out
          have h3 := HL3.out
          have h4 := HL4.out
          rw [h1, h2]; omega
      | true =>
        rw [hi] at he
        subst he
        have HI8 := Lib.hid hi
        clear hi k8
        obtain ⟨⟨z0, z1, z2, z3, z4, z5⟩, g0, g1, g2, g3, g4, g5⟩ := nd_six AI8.out.box
        have hai := AI8.out.setKind (x' := Ps.nd 19 t4.text Ps.e0 0 [x2]) ⟨rfl, rfl, rfl, rfl⟩
        obtain ⟨W9, hW9⟩ : ∃ W9, w8.setCell ⟨w1.heap.size, 0, none⟩ (.int .i64 19) = W9 := ⟨_, rfl⟩
        rw [show w8.setCell ⟨w1.heap.size, 0, none⟩ (.int .i64 (Ps.nd 19 t4.text Ps.e0 0 [x2]).kind) = W9 from hW9] at hai
        have AI9 := Lib.hid hai
        have HW9 := Lib.hid hW9
        clear hai hW9
        go_wp2_with (rw [HW9.out])
        clear z0 z1 z2 z3 z4 z5 g0 g1 g2 g3 g4 g5
        refine wp_region_till (S := (fun W => W.cell? ⟨w1.heap.size, 5, none⟩ = some (.slice (some ⟨D3.heap.size, 0, none⟩) 1 1))) 6 (by kernel_rfl) (AI9.out.drew.cell5) (fun hHeld0 => ?_)
        refine wpAnyT_take (i := 0) (v := ?_) rfl (by kernel_rfl) (by kernel_rfl) (by kernel_rfl) (fun _ _ _ h => h) (Or.inl ⟨by kernel_rfl, ?_⟩) (by assumption) ?_
        rotate_left
        · intro w hSw; (try dsimp only at hSw); go_simp; (try with_reducible rfl)
        (try simp only [Act.put, List.getElem_toArray, List.getElem_cons_zero, List.getElem_cons_succ, List.setIfInBounds_toArray, List.set_cons_zero, List.set_cons_succ])
        refine wpAnyT_take (i := 1) (v := ?_) rfl (by kernel_rfl) (by kernel_rfl) (by kernel_rfl) (fun _ _ _ h => h) (Or.inl ⟨by kernel_rfl, ?_⟩) (by assumption) ?_
        rotate_left
        · intro w hSw; (try dsimp only at hSw); go_simp; (try with_reducible rfl)
        (try simp only [Act.put, List.getElem_toArray, List.getElem_cons_zero, List.getElem_cons_succ, List.setIfInBounds_toArray, List.set_cons_zero, List.set_cons_succ])
        refine wpAnyT_take (i := 2) (v := ?_) rfl (by kernel_rfl) (by kernel_rfl) (by kernel_rfl) (fun _ _ _ h => h) (Or.inl ⟨by kernel_rfl, ?_⟩) (by assumption) ?_
        rotate_left
        · intro w hSw; (try dsimp only at hSw); go_simp; (try with_reducible rfl)
        (try simp only [Act.put, List.getElem_toArray, List.getElem_cons_zero, List.getElem_cons_succ, List.setIfInBounds_toArray, List.set_cons_zero, List.set_cons_succ])
        refine wpAnyT_ready (rs := [3]) (by kernel_rfl) (by simp) ?_
        refine AllReadyT.cons rfl (fun K hK => ?_) AllReadyT.nil
        go_simp
        refine (args_c hF r4 _ (by have := HKL.out; have := HC2.out; have := HL3.out; have := HL4.out; omega) AI9.out.drew.pst).mono ?_
        rintro e w10 (⟨ks10, r10, v10, h1, rfl, hk, h4, h5, h7⟩ | ⟨q, hb, rfl, ho⟩)
        rotate_left
        · have HH := Lib.hid (show Ps.post F l = .bad q ∧ Only (· = p.B) w w10 from ⟨by rw [HE3.out, HE4.out, Ps.O.bind_ok, dotP, if_pos HI8.out, hb]; rfl, AI9.out.drew.only.trans ho⟩)
          clear hb ho
          exact ⟨rfl, .inr ⟨_, HH.out.1, rfl, HH.out.2⟩⟩
        have HE10 := Lib.hid h1
        have HL10 := Lib.hid h7
        have AI10 := Lib.hid (AI9.out.drew.call h5 h4)
        obtain ⟨va10, vc10, rfl⟩ := hk.slice
        obtain ⟨_, _, _, _, hs10⟩ := hk.src
        have HS10 := Lib.hid hs10
        have H210 := Lib.hid (KRowD.behind AI9.out.drew.row hk (Nat.le_refl _) (fun k hk => ⟨Nat.le_trans AI9.out.drew.size hk, by have := AI9.out.drew.box.lt; omega⟩))
        have HM := Lib.hid (show ks10.length ≤ 50000 by have := map_fst_len ks10; have := HL10.out; have := HKM.out; have := HC2.out; have := HL3.out; have := HL4.out; omega)
        refine hK.out _ _ AI10.out.cell5 (fun hHeld1 => ?_)
        clear hK K
        (try simp only [Act.put, List.getElem_toArray, List.getElem_cons_zero, List.getElem_cons_succ, List.setIfInBounds_toArray, List.set_cons_zero, List.set_cons_succ])
        clear h1 hk h4 h5 h7 hs10 hHeld0
        refine wpAnyT_ready (rs := [4]) (by kernel_rfl) (by simp) ?_
        refine AllReadyT.cons rfl (fun K hK => ?_) AllReadyT.nil
        refine step_nd (k2 := ks10) (.tmp 20) (.tmp 22) rfl rfl rfl AI10.out.row rfl HS10.out H210.out AI10.out.size (by have := HM.out; simp; omega) ?_
        intro ka kc wa hr ho hl
        obtain ⟨q0, q1, q2⟩ := AI10.out.more hr ho hl
        refine hK.out _ _ q0 (fun hHeld2 => ?_)
        clear hK K
        (try simp only [Act.put, List.getElem_toArray, List.getElem_cons_zero, List.getElem_cons_succ, List.setIfInBounds_toArray, List.set_cons_zero, List.set_cons_succ])
        refine wpAnyT_take (i := 5) (v := ?_) rfl (by kernel_rfl) (by kernel_rfl) (by kernel_rfl) (fun _ _ _ h => h) (Or.inl ⟨by kernel_rfl, ?_⟩) (by assumption) ?_
        rotate_left
        · intro w hSw; (try dsimp only at hSw); go_simp; (try with_reducible rfl)
        (try simp only [Act.put, List.getElem_toArray, List.getElem_cons_zero, List.getElem_cons_succ, List.setIfInBounds_toArray, List.set_cons_zero, List.set_cons_succ])
        clear hr ho hl hHeld1 hHeld2
        refine wpAnyT_ready (rs := [6]) (by kernel_rfl) (by simp) ?_
        refine AllReadyT.fin rfl (fun K hK => ?_)
        go_simp
        refine hK.out _ _ ?_
        clear hK K
        (try simp only [Act.put, List.getElem_toArray, List.getElem_cons_zero, List.getElem_cons_succ, List.setIfInBounds_toArray, List.set_cons_zero, List.set_cons_succ])
        refine wpAnyT_done (by kernel_rfl) ?_ _
        obtain ⟨W11, hW11⟩ : ∃ W11, wa.setCell ⟨w1.heap.size, 5, none⟩ (.slice ka (1 + ks10.length) kc) = W11 := ⟨_, rfl⟩
        rw [show wa.setCell ⟨w1.heap.size, 5, none⟩ (.slice ka ([(x2, Value.slice va2 ks2.length vc2)].length + ks10.length) kc) = W11 from hW11] at q2
        have hq2 : AppI p w w1.heap.size (Ps.nd 19 t4.text Ps.e0 0 (x2 :: ks10.map (·.1))) (.slice ka ((x2, Value.slice va2 ks2.length vc2) :: ks10).length kc) ((x2, .slice va2 ks2.length vc2) :: ks10) r10 W11 := by
          have e : ((x2, Value.slice va2 ks2.length vc2) :: ks10).length = [(x2, Value.slice va2 ks2.length vc2)].length + ks10.length := by simp; omega
          rw [e]
          exact ⟨q2.box, q2.row, q2.ne, q2.res, q2.gx, q2.pst, q2.only⟩
        have HM2 := Lib.hid (show PostI p F w w1.heap.size (Ps.post F l) l.length (Ps.nd 19 t4.text Ps.e0 0 (x2 :: ks10.map (·.1))) ka kc ((x2, .slice va2 ks2.length vc2) :: ks10) r10 W11 from ⟨hq2, rfl, nd_ok1 _ _ _ _ _ (by decide) HT4.out.2.1 e0_size (by decide), ⟨K, by have := HK3.out; have := HL3.out; have := HL4.out; have := HL10.out; omega, by
          rw [HE3.out, HE4.out, Ps.O.bind_ok, dotP, if_pos HI8.out, HE10.out]; rfl⟩, by
          rw [count_nd, Nd.countL_cons]; have := HC2.out; have := HL3.out; have := HL4.out; have := HL10.out; omega⟩)
        have HW11 := Lib.hid hW11
        clear hq2 q0 q1 q2 hW11
        rw [HW11.out]
        go_wp2_with fail
        go_roundw
        case rel => exact ⟨_, _, _, _, _, HM2⟩
        case measure =>
          have h1 := HM2.out.app.pst.ahead
          have h2 := HAH2.out
          have h3 := HL3.out
          have h4 := HL4.out
          have h5 := HL10.out
          rw [h1, h2]; omega
end
end Go.Proofs.YtfkmnpgpfmkjaaaGreatDoor
namespace Go.Proofs.YtfkmnpgpfmkjaaaGreatDoor
open Go.ChangeShapes Go.WideShapes Go.ChangeAt Go.RowKit
attribute [local go_sem] Oper.semAt_some
open Ps (O W)

section
variable {p : PP} {F : Ps.Fam} {k : Nat}

set_option maxHeartbeats 1000000 in
theorem unary_c (hF : FamC p F k) (hW : Ways p F k) (l : List Lx.T) (w : World) (hk : l.length ≤ k + 1) (hp : Pst p l w) : Calls Tryz.prog 126 #[.pointer (some ⟨p.B, 0, none⟩)] w (NodePost p l (Ps.unary F l) w) := by
  obtain ⟨t, r, rfl, htok⟩ := hp.good.cons
  have HLC := Lib.hid (show r.length + 1 = (t :: r).length from rfl)
  obtain ⟨W0, hW0⟩ : ∃ W0, w.alloc (.cells pzN nT) = W0 := ⟨_, rfl⟩
  have k0 : Kept w W0 := by rw [← hW0]; exact (Kept.refl w).alloc _
  have HZ0 := Lib.hid (show w.heap.size + 1 ≤ W0.heap.size by rw [← hW0]; simp)
  have HB0 := Lib.hid (show Blk W0 w.heap.size nT pzN by rw [← hW0]; exact Blk.new _ _ _)
  have HP0 := Lib.hid (hp.kept k0)
  have HN := Lib.hid hp.lt
  have HO0 := Lib.hid (show Only (· = p.B) w W0 from Only.of_kept k0)
  have HW0 := Lib.hid hW0
  have HKL := Lib.hid hk
  clear hp k0 hW0 hk
  have hf1 := field_tok1
  have hf2 := field_tok2
  go_enter Tryz.func126, Tryz.ntmps126
  go_wp2_with (rw [HW0.out])
  refine (is_l [Ps.kMinus, Ps.kBang] (ty := 9) HP0.out rfl rfl rfl (by decide)).mono ?_
  rintro e w1 ⟨he, k1⟩
  have HP1 := Lib.hid (HP0.out.kept k1)
  have HO1 := Lib.hid (HO0.out.trans (Only.of_kept k1))
  have HB1 := Lib.hid (HB0.out.kept k1)
  have HZ1 := Lib.hid (Nat.le_trans HZ0.out k1.size)
  cases hi : Ps.is [Ps.kMinus, Ps.kBang] (t :: r) with
  | false =>
    rw [hi] at he
    subst he
    have HE1 := Lib.hid (show Ps.unary F (t :: r) = Ps.post F (t :: r) by rw [Ps.unary, show Ps.mem [Ps.kMinus, Ps.kBang] (Ps.srt t) = false from hi]; rfl)
    clear hi k1
    go_wp2_with fail
    refine (post_c hF hW _ _ HKL.out HP1.out).mono ?_
    rintro e w2 (⟨x2, ks2, r2, v2, h1, rfl, hx, hk, h4, h5, hok, h7⟩ | ⟨q, hb, rfl, ho⟩)
    rotate_left
    · have HH := Lib.hid (show Ps.unary F (t :: r) = .bad q ∧ Only (· = p.B) w w2 from ⟨HE1.out.trans hb, HO1.out.trans ho⟩)
      clear hb ho
      go_wp2_with fail
      exact ⟨rfl, .inr ⟨_, HH.out.1, rfl, HH.out.2⟩⟩
    obtain ⟨va2, vc2, rfl⟩ := hk.slice
    have HB2 := Lib.hid (HB1.out.only h5 (by have := HN.out; omega))
    have HH := Lib.hid (show Ps.unary F (t :: r) = .ok x2 r2 ∧ x2.kids = ks2.map (·.1) ∧ KRow (w.heap.size + 1) w2 (.slice va2 ks2.length vc2) ks2 ∧ Pst p r2 w2 ∧ Only (· = p.B) w w2 ∧ x2.ok1 ∧ x2.count + r2.length ≤ (t :: r).length from ⟨HE1.out.trans h1, hx, hk.lower HZ1.out, h4, HO1.out.trans h5, hok, h7⟩)
    clear h1 hx hk h4 h5 hok h7
    obtain ⟨⟨y0, y1, y2, y3, y4, y5⟩, f0, f1, f2, f3, f4, f5⟩ := nd_six HB2.out
    go_wp2_with fail
    exact node_end (x := x2) (ks := ks2) (v := .slice va2 ks2.length vc2) (by rfl) rfl rfl HB2.out HH.out.1 HH.out.2.1 HH.out.2.2.1 HH.out.2.2.2.1 HN.out.2 HH.out.2.2.2.2.1 HH.out.2.2.2.2.2.1 HH.out.2.2.2.2.2.2
  | true =>
    rw [hi] at he
    subst he
    have HSR := Lib.hid (show Ps.srt t ≠ Ps.theEnd from fun e => by
      have h0 : Ps.mem [Ps.kMinus, Ps.kBang] (Ps.srt t) = true := hi
      rw [e] at h0
      exact absurd h0 (by decide +kernel))
    have HE1 := Lib.hid (show Ps.unary F (t :: r) = (F .unary r).bind fun m r' => .ok (Ps.nd 24 t.text Ps.e0 0 [m]) r' by rw [Ps.unary, show Ps.mem [Ps.kMinus, Ps.kBang] (Ps.srt t) = true from hi]; rfl)
    have HTK := Lib.hid (HP0.out.good.ok t (by simp))
    clear hi k1
    go_wp2_with fail
    refine (pnext_c _ HP1.out HSR.out).mono ?_
    rintro e w2 ⟨rfl, h4, h5⟩
    have HP2 := Lib.hid h4
    have HO2 := Lib.hid (HO1.out.trans h5)
    have HZ2 := Lib.hid (Nat.le_trans HZ1.out (Only.size h5))
    have HB2 := Lib.hid (HB1.out.only h5 (by have := HN.out; omega))
    clear h4 h5
    go_wp2_with fail
    refine (hF.unary r _ (by have := HKL.out; have := HLC.out; omega) HP2.out).mono ?_
    rintro e w3 (⟨x3, ks3, r3, v3, h1, rfl, hx, hk, h4, h5, hok, h7⟩ | ⟨q, hb, rfl, ho⟩)
    rotate_left
    · have HH := Lib.hid (show Ps.unary F (t :: r) = .bad q ∧ Only (· = p.B) w w3 from ⟨by rw [HE1.out, hb]; rfl, HO2.out.trans ho⟩)
      clear hb ho
      go_wp2_with fail
      exact ⟨rfl, .inr ⟨_, HH.out.1, rfl, HH.out.2⟩⟩
    obtain ⟨W4, hW4⟩ : ∃ W4, w3.alloc (.cells (ndA x3 v3) nT) = W4 := ⟨_, rfl⟩
    have k4 : Kept w3 W4 := by rw [← hW4]; exact (Kept.refl _).alloc _
    have HK4 := Lib.hid (show KRow (w.heap.size + 1) W4 (.slice (some ⟨w3.heap.size, 0, none⟩) 1 1) [(x3, v3)] by
      rw [← hW4]
      exact KRow.lit [(x3, v3)] rfl rfl rfl (Nat.le_trans HZ2.out h5.size) (by simp) (fun q hq => by
        rw [List.mem_singleton] at hq; subst hq
        exact ⟨hok, ks3, hx, hk.lower HZ2.out⟩))
    have HE4 := Lib.hid (show Ps.unary F (t :: r) = .ok (Ps.nd 24 t.text Ps.e0 0 [x3]) r3 by rw [HE1.out, h1]; rfl)
    have HL4 := Lib.hid h7
    have HP4 := Lib.hid (h4.kept k4)
    have HO4 := Lib.hid ((HO2.out.trans h5).trans (Only.of_kept k4))
    have HB4 := Lib.hid ((HB2.out.only h5 (by have := HN.out; omega)).kept k4)
    have HW4 := Lib.hid hW4
    clear h1 hx hk h4 h5 hok h7 hW4 k4
    obtain ⟨⟨y0, y1, y2, y3, y4, y5⟩, f0, f1, f2, f3, f4, f5⟩ := nd_six HB4.out
    go_wp2_with (rw [HW4.out])
    refine node_end (x := Ps.nd 24 t.text Ps.e0 0 [x3]) (ks := [(x3, v3)]) (by rfl) rfl rfl HB4.out HE4.out rfl HK4.out HP4.out HN.out.2 HO4.out (nd_ok1 _ _ _ _ _ (by decide) HTK.out.2.1 e0_size (by decide)) ?_
    have := HL4.out
    rw [count_nd, Nd.countL_cons, Nd.countL_nil, List.length_cons]; omega

theorem levs_stop (i j : Nat) (x : Nd) (r : List Lx.T) (h : ¬ i + 1 ≤ j) : Ps.levs F i j x r = .ok x r := by
  cases j with
  | zero => rfl
  | succ j => rw [Ps.levs, if_neg (by omega)]
theorem levs_go (i j : Nat) (x : Nd) (r : List Lx.T) (h : i ≤ j) : Ps.levs F i (j + 1) x r = (Ps.lvl F j r.length x r).bind (Ps.levs F i j) := by rw [Ps.levs, if_pos h]

/-- Within operation: the node so far; rest tells what the levels left make of it. -/
structure OprI (p : PP) (w : World) (gx : Nat) (o : O Nd) (n : Nat) (rest : Nat → Nd → List Lx.T → O Nd) (x : Nd) (va : Option Addr) (vc : Nat) (ks : List (Nd × Value)) (r : List Lx.T) (W : World) : Prop where
  app : AppI p w gx x (.slice va ks.length vc) ks r W
  kids : x.kids = ks.map (·.1)
  ok : x.ok1
  eq : ∃ K, r.length ≤ K ∧ o = rest K x r
  cnt : x.count + r.length ≤ n
theorem lvl_go {j K : Nat} {x : Nd} {t : Lx.T} {r : List Lx.T} (hK : (t :: r).length ≤ K) (hm : Ps.mem (Ps.levels j) (Ps.srt t) = true) : ∃ K', r.length ≤ K' ∧ Ps.lvl F j K x (t :: r) = (F (.oper (j + 1)) r).bind fun m r' => Ps.lvl F j K' (Ps.nd 25 t.text Ps.e0 0 [x, m]) r' := by
  cases K with
  | zero => cases hK
  | succ K => exact ⟨K, by rw [List.length_cons] at hK; omega, by rw [Ps.lvl, if_pos hm]⟩
theorem lvl_stop {j K : Nat} {x : Nd} {t : Lx.T} {r : List Lx.T} (hm : Ps.mem (Ps.levels j) (Ps.srt t) = false) : Ps.lvl F j K x (t :: r) = .ok x (t :: r) := by
  cases K with
  | zero => rfl
  | succ K => rw [Ps.lvl, hm]; rfl
theorem level_end {j : Nat} : Ps.mem (Ps.levels j) Ps.theEnd = false := by
  match j with
  | 0 => decide +kernel
  | 1 => decide +kernel
  | 2 => decide +kernel
  | 3 => decide +kernel
  | 4 => decide +kernel
  | 5 => decide +kernel
  | _ + 6 => rfl
theorem Pst.level {l : List Lx.T} {w : World} (h : Pst p l w) {j : Nat} (hj : j < 6) : ∃ a c, w.cell? ⟨p.B, 2 + j, none⟩ = some (.slice a (Ps.levels j).length c) ∧ LvR p.far w (.slice a (Ps.levels j).length c) (Ps.levels j) := by
  obtain ⟨ad, c0, hb, _⟩ := h.blk
  have hl := h.sta.lv j hj
  obtain ⟨a, c, e, _⟩ := id hl
  refine ⟨a, c, ?_, e ▸ hl⟩
  rw [hb.cell, ← e]
  match j, hj with
  | 0, _ => rfl
  | 1, _ => rfl
  | 2, _ => rfl
  | 3, _ => rfl
  | 4, _ => rfl
  | 5, _ => rfl

set_option maxHeartbeats 4000000 in
theorem operation_c (hF : FamC p F k) (hW : Ways p F k) (i : Nat) (hi6 : i ≤ 6) (l : List Lx.T) (w : World) (hk : l.length ≤ k + 1) (hp : Pst p l w) : Calls Tryz.prog 116 #[.pointer (some ⟨p.B, 0, none⟩), .int .i64 (i : Int)] w (NodePost p l (Ps.oper F i l) w) := by
  obtain ⟨W0, hW0⟩ : ∃ W0, w.alloc (.cells pzN nT) = W0 := ⟨_, rfl⟩
  have k0 : Kept w W0 := by rw [← hW0]; exact (Kept.refl w).alloc _
  have HZ0 := Lib.hid (show w.heap.size + 1 ≤ W0.heap.size by rw [← hW0]; simp)
  have HB0 := Lib.hid (show Blk W0 w.heap.size nT pzN by rw [← hW0]; exact Blk.new _ _ _)
  have HP0 := Lib.hid (hp.kept k0)
  have HN := Lib.hid hp.lt
  have HO0 := Lib.hid (show Only (· = p.B) w W0 from Only.of_kept k0)
  have HW0 := Lib.hid hW0
  have HKL := Lib.hid hk
  clear hp k0 hW0 hk
  have hf1 := field_tok1
  have hf2 := field_tok2
  go_enter Tryz.func116, Tryz.ntmps116
  go_wp2_with (rw [HW0.out])
  refine (unary_c hF hW l _ HKL.out HP0.out).mono ?_
  rintro e w1 (⟨x1, ks1, r1, v1, h1, rfl, hx, hk, h4, h5, hok, h7⟩ | ⟨q, hb, rfl, ho⟩)
  rotate_left
  · have HH := Lib.hid (show Ps.oper F i l = .bad q ∧ Only (· = p.B) w w1 from ⟨by simp only [Ps.oper, hb, Ps.O.bind_ok, Ps.O.bind_bad, eq_self, if_true, Bool.false_eq_true, if_false], HO0.out.trans ho⟩)
    clear hb ho
    go_wp2_with fail
    exact ⟨rfl, .inr ⟨_, HH.out.1, rfl, HH.out.2⟩⟩
  obtain ⟨va1, vc1, rfl⟩ := hk.slice
  have HKx := Lib.hid (hk.lower HZ0.out)
  have HB1 := Lib.hid (HB0.out.only h5 (by have := HN.out; omega))
  obtain ⟨V1, hV1⟩ : ∃ V, w1.alloc (.cells (ndA x1 (.slice va1 ks1.length vc1)) nT) = V := ⟨_, rfl⟩
  have HM1 := Lib.hid (show OprI p w w1.heap.size (Ps.oper F i l) l.length (fun _ x r => Ps.levs F i 6 x r) x1 va1 vc1 ks1 r1 V1 from ⟨AppI.new (x := x1) HKx.out HB1.out HN.out h4 (HO0.out.trans h5) rfl hV1, hx, hok, ⟨_, Nat.le_refl _, by simp only [Ps.oper, h1, Ps.O.bind_ok]⟩, h7⟩)
  have HV1 := Lib.hid hV1
  have HI6 := Lib.hid hi6
  clear h1 hx hk h4 h5 hok h7 hV1 hi6
  go_wp2_with (rw [HV1.out])
  go_loopw [6] (fun s wr => ∃ (j : Nat) (x : Nd) (ks : List (Nd × Value)) (r : List Lx.T) (va : Option Addr) (vc : Nat), s = .int .i64 ((j : Int) - 1) ∧ j ≤ 6 ∧ Hid (OprI p w w1.heap.size (Ps.oper F i l) l.length (fun _ x r => Ps.levs F i j x r) x va vc ks r wr)) (fun s wr => (intOf s + 1).toNat)
  case atStart => exact ⟨6, _, _, _, _, _, rfl, by omega, HM1⟩
  case round =>
    obtain ⟨j, x2, ks2, r2, va2, vc2, rfl, hj6, HR2⟩ := hrel
    have AR2 := Lib.hid HR2.out.app
    have HC2 := Lib.hid HR2.out.cnt
    have HX2 := Lib.hid (And.intro HR2.out.kids HR2.out.ok)
    obtain ⟨wo, rfl⟩ : ∃ wo, wo = wr := ⟨_, rfl⟩
    by_cases hij : i + 1 ≤ j
    rotate_left
    · have hijI : ¬ (i : Int) ≤ (j : Int) - 1 := by omega
      have HE2 := Lib.hid (show Ps.oper F i l = .ok x2 r2 by
        obtain ⟨_, _, e⟩ := HR2.out.eq
        rw [e, levs_stop _ _ _ _ hij])
      clear hij hj6
      obtain ⟨z0, z1, z2, z3, z4, z5⟩ := AR2.out.cells
      obtain ⟨⟨y0, y1, y2, y3, y4, y5⟩, f0, f1, f2, f3, f4, f5⟩ := nd_six AR2.out.res
      go_wp2_with fail
      exact AR2.out.end (y := x2) (by rfl) rfl rfl ⟨rfl, rfl, rfl, rfl, rfl⟩ HE2.out HX2.out.1 HX2.out.2 HC2.out
    obtain ⟨j', rfl⟩ : ∃ j', j = j' + 1 := ⟨j - 1, by omega⟩
    have hjI : ((j' + 1 : Nat) : Int) - 1 = (j' : Int) := by omega
    rw [hjI]
    have hijI : (i : Int) ≤ (j' : Int) := by omega
    have hj5 : (j' : Int) ≤ 5 := by omega
    have hj0 : (0 : Int) ≤ (j' : Int) := by omega
    have hj5n : j' < 6 := by omega
    have HJ5 := Lib.hid hj5n
    have HM2 := Lib.hid (show OprI p w w1.heap.size (Ps.oper F i l) l.length (fun K x r => (Ps.lvl F j' K x r).bind (Ps.levs F i j')) x2 va2 vc2 ks2 r2 wo from ⟨AR2.out, HX2.out.1, HX2.out.2, ⟨_, Nat.le_refl _, by
      obtain ⟨_, _, e⟩ := HR2.out.eq
      rw [e, levs_go _ _ _ _ (by omega)]⟩, HC2.out⟩)
    clear hij hj6 hjI
    go_wp2_with fail
    go_loopw [] (fun wr => ∃ x ks r va vc, Hid (OprI p w w1.heap.size (Ps.oper F i l) l.length (fun K x r => (Ps.lvl F j' K x r).bind (Ps.levs F i j')) x va vc ks r wr)) (fun wr => ahead p wr)
    case atStart => exact ⟨_, _, _, _, _, HM2⟩
    case round =>
      obtain ⟨x3, ks3, r3, va3, vc3, HR3⟩ := hrel
      have AR3 := Lib.hid HR3.out.app
      have HAH3 := Lib.hid AR3.out.pst.ahead
      have HC3 := Lib.hid HR3.out.cnt
      have HX3 := Lib.hid (And.intro HR3.out.kids HR3.out.ok)
      obtain ⟨la, lc, hlc, hlv⟩ := AR3.out.pst.level HJ5.out
      have hlc : wr.cell? ⟨p.B, 2 + (j' : Int).toNat, none⟩ = some (.slice la (Ps.levels j').length lc) := hlc
      have HLV := Lib.hid hlv
      clear hlv
      obtain ⟨t3, q3, rfl, htk⟩ := AR3.out.pst.good.cons
      have HTK := Lib.hid htk
      clear htk
      go_wp2_with fail
      refine (is_c p.far (Ps.levels j') la _ lc wr AR3.out.pst rfl HLV.out).mono ?_
      rintro e w4 ⟨he, k4⟩
      cases hi : Ps.mem (Ps.levels j') (Ps.srt t3) with
      | false =>
        rw [hi] at he
        subst he
        have HM4 := Lib.hid (show OprI p w w1.heap.size (Ps.oper F i l) l.length (fun _ x r => Ps.levs F i j' x r) x3 va3 vc3 ks3 (t3 :: q3) w4 from ⟨AR3.out.kept k4, HX3.out.1, HX3.out.2, ⟨_, Nat.le_refl _, by
          obtain ⟨K, _, e⟩ := HR3.out.eq
          rw [e, lvl_stop hi]; rfl⟩, HC3.out⟩)
        clear hi k4
        go_wp2_with fail
        go_roundw
        case rel => exact ⟨j', _, _, _, _, _, by go_num, by omega, HM4⟩
        case measure => simp [intOf]
      | true =>
        rw [hi] at he
        subst he
        have HSR := Lib.hid (show Ps.srt t3 ≠ Ps.theEnd from fun e => by rw [e, level_end] at hi; cases hi)
        obtain ⟨K, hK, hKe⟩ := HR3.out.eq
        obtain ⟨K', hK', hKe'⟩ := lvl_go (F := F) (x := x3) hK hi
        have HE3 := Lib.hid (show Ps.oper F i l = ((F (.oper (j' + 1)) q3).bind fun m r' => Ps.lvl F j' K' (Ps.nd 25 t3.text Ps.e0 0 [x3, m]) r').bind (Ps.levs F i j') by rw [hKe]; show (Ps.lvl F j' K x3 (t3 :: q3)).bind _ = _; rw [hKe'])
        have HK3 := Lib.hid hK'
        have AI4 := Lib.hid (AR3.out.kept k4)
        have HO6 := Lib.hid (fun W (h : Pst p q3 W) => show Calls Tryz.prog 116 #[.pointer (some ⟨p.B, 0, none⟩), .int .i64 ((j' : Int) + 1)] W (NodePost p q3 (F (.oper (j' + 1)) q3) W) from hF.oper (j' + 1) q3 W (by have := HJ5.out; omega) (by have h1 := HC3.out; have := HKL.out; have := Nd.count_pos x3; rw [List.length_cons] at h1; omega) h)
        clear hi k4 hK hKe hK' hKe' hlc
        go_wp2_with fail
        obtain ⟨D4, hD4⟩ : ∃ D, w4.drew = D := ⟨_, rfl⟩
        have AD4 := Lib.hid (show AppI p w w1.heap.size x3 (.slice va3 ks3.length vc3) ks3 (t3 :: q3) D4 by rw [← hD4]; exact AI4.out.drew)
        have HD4 := Lib.hid hD4
        have HS4 := Lib.hid (show _ from (AD4.out.cells))
        rw [← HD4.out] at HS4
        clear hD4
        refine wp_region_till (S := (fun W => W.cell? ⟨w1.heap.size, 0, none⟩ = some (.int .i64 x3.kind) ∧ W.cell? ⟨w1.heap.size, 1, none⟩ = some (.string x3.text) ∧ W.cell? ⟨w1.heap.size, 2, none⟩ = some (.string x3.typ) ∧ W.cell? ⟨w1.heap.size, 3, none⟩ = some (.string x3.frm) ∧ W.cell? ⟨w1.heap.size, 4, none⟩ = some (.int .i64 x3.n) ∧ W.cell? ⟨w1.heap.size, 5, none⟩ = some (.slice va3 ks3.length vc3))) 10 (by kernel_rfl) HS4.out (fun hHeld0 => ?_)
        rw [HD4.out] at hHeld0 ⊢
        refine wpAnyT_take (i := 0) (v := ?_) rfl (by kernel_rfl) (by kernel_rfl) (by kernel_rfl) (fun _ _ _ h => h) (Or.inl ⟨by kernel_rfl, ?_⟩) (by assumption) ?_
        rotate_left
        · intro w hSw; (try dsimp only at hSw); go_simp; (try with_reducible rfl)
        (try simp only [Act.put, List.getElem_toArray, List.getElem_cons_zero, List.getElem_cons_succ, List.setIfInBounds_toArray, List.set_cons_zero, List.set_cons_succ])
        refine wpAnyT_take (i := 3) (v := ?_) rfl (by kernel_rfl) (by kernel_rfl) (by kernel_rfl) (fun _ _ _ h => h) (Or.inl ⟨by kernel_rfl, ?_⟩) (by assumption) ?_
        rotate_left
        · intro w hSw; (try dsimp only at hSw); go_simp; (try with_reducible rfl)
        (try simp only [Act.put, List.getElem_toArray, List.getElem_cons_zero, List.getElem_cons_succ, List.setIfInBounds_toArray, List.set_cons_zero, List.set_cons_succ])
        refine wpAnyT_take (i := 4) (v := ?_) rfl (by kernel_rfl) (by kernel_rfl) (by kernel_rfl) (fun _ _ _ h => h) (Or.inl ⟨by kernel_rfl, ?_⟩) (by assumption) ?_
        rotate_left
        · intro w hSw; (try dsimp only at hSw); go_simp; (try with_reducible rfl)
        (try simp only [Act.put, List.getElem_toArray, List.getElem_cons_zero, List.getElem_cons_succ, List.setIfInBounds_toArray, List.set_cons_zero, List.set_cons_succ])
        refine wpAnyT_take (i := 5) (v := ?_) rfl (by kernel_rfl) (by kernel_rfl) (by kernel_rfl) (fun _ _ _ h => h) (Or.inl ⟨by kernel_rfl, ?_⟩) (by assumption) ?_
        rotate_left
        · intro w hSw; (try dsimp only at hSw); go_simp; (try with_reducible rfl)
        (try simp only [Act.put, List.getElem_toArray, List.getElem_cons_zero, List.getElem_cons_succ, List.setIfInBounds_toArray, List.set_cons_zero, List.set_cons_succ])
        refine wpAnyT_take (i := 6) (v := ?_) rfl (by kernel_rfl) (by kernel_rfl) (by kernel_rfl) (fun _ _ _ h => h) (Or.inl ⟨by kernel_rfl, ?_⟩) (by assumption) ?_
        rotate_left
        · intro w hSw; (try dsimp only at hSw); go_simp; (try with_reducible rfl)
        (try simp only [Act.put, List.getElem_toArray, List.getElem_cons_zero, List.getElem_cons_succ, List.setIfInBounds_toArray, List.set_cons_zero, List.set_cons_succ])
        refine wpAnyT_ready (rs := [1]) (by kernel_rfl) (by simp) ?_
        refine AllReadyT.cons rfl (fun K hK => ?_) AllReadyT.nil
        go_simp
        refine (pnext_c _ AD4.out.pst HSR.out).mono ?_
        rintro e w5 ⟨rfl, h4, h5⟩
        have AI5 := Lib.hid (AD4.out.call h5 h4)
        refine hK.out _ _ AI5.out.cells (fun hHeld1 => ?_)
        clear hK K
        (try simp only [Act.put, List.getElem_toArray, List.getElem_cons_zero, List.getElem_cons_succ, List.setIfInBounds_toArray, List.set_cons_zero, List.set_cons_succ])
        clear h4 h5 hHeld0
        refine wpAnyT_take (i := 2) (v := ?_) rfl (by kernel_rfl) (by kernel_rfl) (by kernel_rfl) (fun _ _ _ h => h) (Or.inl ⟨by kernel_rfl, ?_⟩) (by assumption) ?_
        rotate_left
        · intro w hSw; (try dsimp only at hSw); go_simp; (try with_reducible rfl)
        (try simp only [Act.put, List.getElem_toArray, List.getElem_cons_zero, List.getElem_cons_succ, List.setIfInBounds_toArray, List.set_cons_zero, List.set_cons_succ])
        refine wpAnyT_ready (rs := [7]) (by kernel_rfl) (by simp) ?_
        refine AllReadyT.cons rfl (fun K hK => ?_) AllReadyT.nil
        go_simp
        rw [show IntKind.i64.wrap ((j' : Int) + 1) = (j' : Int) + 1 from IntWalk.i64_in _ (by omega)]
        refine (HO6.out _ AI5.out.pst).mono ?_
        rintro e w6 (⟨x6, ks6, r6, v6, h1, rfl, hx, hk, h4, h5, hok, h7⟩ | ⟨q, hb, rfl, ho⟩)
        rotate_left
        · have HH := Lib.hid (show Ps.oper F i l = .bad q ∧ Only (· = p.B) w w6 from ⟨by rw [HE3.out, hb]; rfl, AI5.out.only.trans ho⟩)
          clear hb ho
          exact ⟨rfl, .inr ⟨_, HH.out.1, rfl, HH.out.2⟩⟩
        have HE6 := Lib.hid h1
        have HL6 := Lib.hid h7
        obtain ⟨ai6, hr6, hn6⟩ := AI5.out.lit2 HX3.out.1 HX3.out.2 h5 h4 hx hk hok
        have AI6 := Lib.hid ai6
        obtain ⟨W7, hW7⟩ : ∃ W7, w6.alloc (.cells #[.int .i64 x3.kind, .string x3.text, .string x3.typ, .string x3.frm, .int .i64 x3.n, .slice va3 ks3.length vc3, .int .i64 x6.kind, .string x6.text, .string x6.typ, .string x6.frm, .int .i64 x6.n, v6] nT) = W7 := ⟨_, rfl⟩
        rw [hW7] at hr6
        have HKR := Lib.hid (And.intro hr6 hn6)
        have AI7 := Lib.hid (ai6.kept (show Kept w6 W7 by rw [← hW7]; exact (Kept.refl _).alloc _))
        have HW7 := Lib.hid hW7
        refine hK.out _ _ AI6.out.cells (fun hHeld2 => ?_)
        clear hK K
        (try simp only [Act.put, List.getElem_toArray, List.getElem_cons_zero, List.getElem_cons_succ, List.setIfInBounds_toArray, List.set_cons_zero, List.set_cons_succ])
        clear h1 hx hk h4 h5 hok h7 ai6 hr6 hn6 hW7 hHeld1
        refine wpAnyT_ready (rs := [8]) (by kernel_rfl) (by simp) ?_
        refine AllReadyT.cons rfl (fun K hK => ?_) AllReadyT.nil
        go_simp
        rw [HW7.out]
        refine hK.out _ _ AI7.out.cells (fun hHeld3 => ?_)
        clear hK K
        (try simp only [Act.put, List.getElem_toArray, List.getElem_cons_zero, List.getElem_cons_succ, List.setIfInBounds_toArray, List.set_cons_zero, List.set_cons_succ])
        clear hHeld2
        refine wpAnyT_take (i := 9) (v := ?_) rfl (by kernel_rfl) (by kernel_rfl) (by kernel_rfl) (fun _ _ _ h => h) (Or.inl ⟨by kernel_rfl, ?_⟩) (by assumption) ?_
        rotate_left
        · intro w hSw; (try dsimp only at hSw); go_simp; (try with_reducible rfl)
        (try simp only [Act.put, List.getElem_toArray, List.getElem_cons_zero, List.getElem_cons_succ, List.setIfInBounds_toArray, List.set_cons_zero, List.set_cons_succ])
        obtain ⟨_, g0, g1, g2, g3, g4, g5⟩ := nd_six AI7.out.box
        clear hHeld3
        refine wpAnyT_ready (rs := [10]) (by kernel_rfl) (by simp) ?_
        refine AllReadyT.fin rfl (fun K hK => ?_)
        go_simp
        refine hK.out _ _ ?_
        clear hK K
        (try simp only [Act.put, List.getElem_toArray, List.getElem_cons_zero, List.getElem_cons_succ, List.setIfInBounds_toArray, List.set_cons_zero, List.set_cons_succ])
        refine wpAnyT_done (by kernel_rfl) ?_ _
        clear g0 g1 g2 g3 g4 g5
        have hai := AI7.out.put HKR.out.1 HKR.out.2 (Ps.nd 25 t3.text Ps.e0 0 [x3, x6])
        obtain ⟨W8, hW8⟩ : ∃ W8, put6n W7 w1.heap.size (Ps.nd 25 t3.text Ps.e0 0 [x3, x6]) (.slice (some ⟨w6.heap.size, 0, none⟩) 2 2) = W8 := ⟨_, rfl⟩
        rw [hW8] at hai
        have HM8 := Lib.hid (show OprI p w w1.heap.size (Ps.oper F i l) l.length (fun K x r => (Ps.lvl F j' K x r).bind (Ps.levs F i j')) (Ps.nd 25 t3.text Ps.e0 0 [x3, x6]) (some ⟨w6.heap.size, 0, none⟩) 2 [(x3, .slice va3 ks3.length vc3), (x6, v6)] r6 W8 from ⟨hai, rfl, nd_ok1 _ _ _ _ _ (by decide) HTK.out.2.1 e0_size (by decide), ⟨K', by have := HK3.out; have := HL6.out; omega, by
          rw [HE3.out, HE6.out]; rfl⟩, by
          rw [count_nd, Nd.countL_cons, Nd.countL_cons, Nd.countL_nil]; have h1 := HC3.out; rw [List.length_cons] at h1; have := HL6.out; omega⟩)
        have HW8 := Lib.hid (show (((((W7.setCell ⟨w1.heap.size, 0, none⟩ (.int .i64 25)).setCell ⟨w1.heap.size, 1, none⟩ (.string t3.text)).setCell ⟨w1.heap.size, 2, none⟩ (.string Ps.e0)).setCell ⟨w1.heap.size, 3, none⟩ (.string Ps.e0)).setCell ⟨w1.heap.size, 4, none⟩ (.int .i64 0)).setCell ⟨w1.heap.size, 5, none⟩ (.slice (some ⟨w6.heap.size, 0, none⟩) 2 2) = W8 from hW8)
        clear hai hW8
        rw [HW8.out]
        go_wp2_with fail
        go_roundw
        case rel => exact ⟨_, _, _, _, _, HM8⟩
        case measure =>
          have h1 := HM8.out.app.pst.ahead
          have h2 := HAH3.out
          have h3 := HL6.out
          have h4 := Nd.count_pos x6
          rw [h1, h2, List.length_cons]; omega
end
end Go.Proofs.YtfkmnpgpfmkjaaaGreatDoor
namespace Go.Proofs.YtfkmnpgpfmkjaaaGreatDoor
open Go.ChangeShapes Go.WideShapes Go.ChangeAt Go.RowKit
attribute [local go_sem] Oper.semAt_some
open Ps (O W)

section
variable {p : PP} {F : Ps.Fam} {k : Nat}

set_option maxHeartbeats 4000000 in
theorem pexpr_c (hF : FamC p F k) (hW : Ways p F k) (l : List Lx.T) (w : World) (hk : l.length ≤ k + 1) (hp : Pst p l w) : Calls Tryz.prog 95 #[.pointer (some ⟨p.B, 0, none⟩)] w (NodePost p l (Ps.expr F l) w) := by
  obtain ⟨W0, hW0⟩ : ∃ W0, w.alloc (.cells pzN nT) = W0 := ⟨_, rfl⟩
  have k0 : Kept w W0 := by rw [← hW0]; exact (Kept.refl w).alloc _
  have HZ0 := Lib.hid (show w.heap.size + 1 ≤ W0.heap.size by rw [← hW0]; simp)
  have HB0 := Lib.hid (show Blk W0 w.heap.size nT pzN by rw [← hW0]; exact Blk.new _ _ _)
  have HP0 := Lib.hid (hp.kept k0)
  have HN := Lib.hid hp.lt
  have HO0 := Lib.hid (show Only (· = p.B) w W0 from Only.of_kept k0)
  have HKM := Lib.hid (show l.length ≤ 30000 from hp.len)
  have HW0 := Lib.hid hW0
  have HKL := Lib.hid hk
  clear hp k0 hW0 hk
  have hf1 := field_tok1
  have hf2 := field_tok2
  go_enter Tryz.func95, Tryz.ntmps95
  go_wp2_with (rw [HW0.out])
  refine (show Calls Tryz.prog 116 #[.pointer (some ⟨p.B, 0, none⟩), .int .i64 0] W0 (NodePost p l (Ps.oper F 0 l) W0) from operation_c hF hW 0 (by omega) l W0 HKL.out HP0.out).mono ?_
  rintro e w1 (⟨x1, ks1, r1, v1, h1, rfl, hx, hk, h4, h5, hok, h7⟩ | ⟨q, hb, rfl, ho⟩)
  rotate_left
  · have HH := Lib.hid (show Ps.expr F l = .bad q ∧ Only (· = p.B) w w1 from ⟨by simp only [Ps.expr, hb, Ps.O.bind_ok, Ps.O.bind_bad, eq_self, if_true, Bool.false_eq_true, if_false], HO0.out.trans ho⟩)
    clear hb ho
    go_wp2_with fail
    exact ⟨rfl, .inr ⟨_, HH.out.1, rfl, HH.out.2⟩⟩
  obtain ⟨va1, vc1, rfl⟩ := hk.slice
  have HKx := Lib.hid (hk.lower HZ0.out)
  have HB1 := Lib.hid (HB0.out.only h5 (by have := HN.out; omega))
  obtain ⟨V1, hV1⟩ : ∃ V, w1.alloc (.cells (ndA x1 (.slice va1 ks1.length vc1)) nT) = V := ⟨_, rfl⟩
  have AI1 := Lib.hid (AppI.new (x := x1) HKx.out HB1.out HN.out h4 (HO0.out.trans h5) rfl hV1)
  have HE1 := Lib.hid h1
  have HX1 := Lib.hid (And.intro hx hok)
  have HL1 := Lib.hid h7
  have HV1 := Lib.hid hV1
  obtain ⟨t, r, rfl, htk⟩ := h4.good.cons
  clear h1 hx hk h4 h5 hok h7 hV1 htk
  go_wp2_with (rw [HV1.out])
  refine (is_l [Ps.kEq] (ty := 9) AI1.out.pst rfl rfl rfl (by decide)).mono ?_
  rintro e w2 ⟨he, k2⟩
  have AI2 := Lib.hid (AI1.out.kept k2)
  cases hi : Ps.is [Ps.kEq] (t :: r) with
  | false =>
    rw [hi] at he
    subst he
    have HE2 := Lib.hid (show Ps.expr F l = .ok x1 (t :: r) by simp only [Ps.expr, HE1.out, Ps.O.bind_ok, hi, Bool.false_eq_true, if_false])
    clear hi k2
    obtain ⟨z0, z1, z2, z3, z4, z5⟩ := AI2.out.cells
    obtain ⟨⟨y0, y1, y2, y3, y4, y5⟩, f0, f1, f2, f3, f4, f5⟩ := nd_six AI2.out.res
    go_wp2_with fail
    exact AI2.out.end (y := x1) (by rfl) rfl rfl ⟨rfl, rfl, rfl, rfl, rfl⟩ HE2.out HX1.out.1 HX1.out.2 HL1.out
  | true =>
    rw [hi] at he
    subst he
    have HSR := Lib.hid (show Ps.srt t ≠ Ps.theEnd from fun e => by
      have h0 : Ps.mem [Ps.kEq] (Ps.srt t) = true := hi
      rw [e] at h0
      exact absurd h0 (by decide +kernel))
    have HE2 := Lib.hid (show Ps.expr F l = if Ps.setK x1.kind = 0 then .bad t.pos else (F .expr r).bind fun m r => .ok (.mk (Ps.setK x1.kind) x1.text x1.typ x1.frm x1.n (x1.kids ++ [m])) r by simp only [Ps.expr, HE1.out, Ps.O.bind_ok, hi, if_true]; rfl)
    clear hi k2
    by_cases hk : x1.kind = 14
    · have HE3 := Lib.hid (show Ps.expr F l = (F .expr r).bind fun m r => .ok (.mk 16 x1.text x1.typ x1.frm x1.n (x1.kids ++ [m])) r by rw [HE2.out, show Ps.setK x1.kind = 16 by unfold Ps.setK; rw [hk]; rfl]; rfl)
      have hb14 : (x1.kind == 14) = true := by rw [hk]; rfl
      obtain ⟨⟨z0, z1, z2, z3, z4, z5⟩, g0, g1, g2, g3, g4, g5⟩ := nd_six AI2.out.box
      have hai := AI2.out.setKind (x' := .mk 16 x1.text x1.typ x1.frm x1.n x1.kids) ⟨rfl, rfl, rfl, rfl⟩
      obtain ⟨W3, hW3⟩ : ∃ W3, w2.setCell ⟨w1.heap.size, 0, none⟩ (.int .i64 16) = W3 := ⟨_, rfl⟩
      rw [show w2.setCell ⟨w1.heap.size, 0, none⟩ (.int .i64 (Nd.mk 16 x1.text x1.typ x1.frm x1.n x1.kids).kind) = W3 from hW3] at hai
      have AI3 := Lib.hid hai
      have HW3 := Lib.hid hW3
      have HM := Lib.hid (show ks1.length + 1 ≤ 60000 by have h1 := map_fst_len ks1; rw [← HX1.out.1] at h1; have h2 := HL1.out; rw [Nd.count_eq] at h2; have := HKM.out; omega)
      clear hai hW3 hk
      go_wp2_with (rw [HW3.out])
      clear z0 z1 z2 z3 z4 z5 g0 g1 g2 g3 g4 g5
      refine (pnext_c _ AI3.out.pst HSR.out).mono ?_
      rintro e w4 ⟨rfl, h4, h5⟩
      have AI4 := Lib.hid (AI3.out.call h5 h4)
      clear h4 h5
      go_wp2_with fail
      refine wp_region_till (S := (fun W => W.cell? ⟨w1.heap.size, 5, none⟩ = some (.slice va1 ks1.length vc1))) 7 (by kernel_rfl) (AI4.out.drew.cell5) (fun hHeld0 => ?_)
      refine wpAnyT_take (i := 0) (v := ?_) rfl (by kernel_rfl) (by kernel_rfl) (by kernel_rfl) (fun _ _ _ h => h) (Or.inl ⟨by kernel_rfl, ?_⟩) (by assumption) ?_
      rotate_left
      · intro w hSw; (try dsimp only at hSw); go_simp; (try with_reducible rfl)
      (try simp only [Act.put, List.getElem_toArray, List.getElem_cons_zero, List.getElem_cons_succ, List.setIfInBounds_toArray, List.set_cons_zero, List.set_cons_succ])
      refine wpAnyT_take (i := 1) (v := ?_) rfl (by kernel_rfl) (by kernel_rfl) (by kernel_rfl) (fun _ _ _ h => h) (Or.inl ⟨by kernel_rfl, ?_⟩) (by assumption) ?_
      rotate_left
      · intro w hSw; (try dsimp only at hSw); go_simp; (try with_reducible rfl)
      (try simp only [Act.put, List.getElem_toArray, List.getElem_cons_zero, List.getElem_cons_succ, List.setIfInBounds_toArray, List.set_cons_zero, List.set_cons_succ])
      refine wpAnyT_take (i := 2) (v := ?_) rfl (by kernel_rfl) (by kernel_rfl) (by kernel_rfl) (fun _ _ _ h => h) (Or.inl ⟨by kernel_rfl, ?_⟩) (by assumption) ?_
      rotate_left
      · intro w hSw; (try dsimp only at hSw); go_simp; (try with_reducible rfl)
      (try simp only [Act.put, List.getElem_toArray, List.getElem_cons_zero, List.getElem_cons_succ, List.setIfInBounds_toArray, List.set_cons_zero, List.set_cons_succ])
      refine wpAnyT_ready (rs := [3]) (by kernel_rfl) (by simp) ?_
      refine AllReadyT.cons rfl (fun K hK => ?_) AllReadyT.nil
      go_simp
      refine ((hF.expr r _ (by have h1 := HL1.out; have := HKL.out; have := Nd.count_pos x1; rw [List.length_cons] at h1; omega) AI4.out.pst.drew)).mono ?_
      rintro e w5 (⟨x5, ks5, r5, v5, h1, rfl, hx, hk, h4, h5, hok, h7⟩ | ⟨q, hb, rfl, ho⟩)
      rotate_left
      · have HH := Lib.hid (show Ps.expr F l = .bad q ∧ Only (· = p.B) w w5 from ⟨by simp only [HE3.out, hb, Ps.O.bind_ok, Ps.O.bind_bad, eq_self, if_true, Bool.false_eq_true, if_false], AI4.out.drew.only.trans ho⟩)
        clear hb ho
        exact ⟨rfl, .inr ⟨_, HH.out.1, rfl, HH.out.2⟩⟩
      have HE5 := Lib.hid h1
      have HX5 := Lib.hid (And.intro hx hok)
      have HL5 := Lib.hid h7
      obtain ⟨ai5, hs5, h25⟩ := AI4.out.drew.asks h5 h4 hx hk hok
      refine hK.out _ _ ((AI4.out.drew.call h5 h4).cell5) (fun hHeld1 => ?_)
      clear hK K
      (try simp only [Act.put, List.getElem_toArray, List.getElem_cons_zero, List.getElem_cons_succ, List.setIfInBounds_toArray, List.set_cons_zero, List.set_cons_succ])
      refine wpAnyT_ready (rs := [4]) (by kernel_rfl) (by simp) ?_
      refine AllReadyT.cons rfl (fun K hK => ?_) AllReadyT.nil
      go_simp
      refine hK.out _ _ ai5.cell5 (fun hHeld2 => ?_)
      clear hK K
      (try simp only [Act.put, List.getElem_toArray, List.getElem_cons_zero, List.getElem_cons_succ, List.setIfInBounds_toArray, List.set_cons_zero, List.set_cons_succ])
      have AJ5 := Lib.hid ai5
      have HS5 := Lib.hid hs5
      have H25 := Lib.hid h25
      clear ai5 hs5 h25 h1 hx hk h4 h5 hok h7 hHeld0 hHeld1
      refine wpAnyT_ready (rs := [5]) (by kernel_rfl) (by simp) ?_
      refine AllReadyT.cons rfl (fun K hK => ?_) AllReadyT.nil
      refine step_nd (k2 := [(x5, v5)]) (.tmp 24) (.tmp 27) rfl rfl rfl AJ5.out.row rfl HS5.out H25.out AJ5.out.size (by first | (simp; done) | (have := HM.out; simp; omega)) ?_
      intro ka5 kc5 wa5 hr ho hl
      obtain ⟨q0, q1, q2⟩ := AJ5.out.more hr ho hl
      refine hK.out _ _ q0 (fun hHeld3 => ?_)
      clear hK K
      (try simp only [Act.put, List.getElem_toArray, List.getElem_cons_zero, List.getElem_cons_succ, List.setIfInBounds_toArray, List.set_cons_zero, List.set_cons_succ])
      refine wpAnyT_take (i := 6) (v := ?_) rfl (by kernel_rfl) (by kernel_rfl) (by kernel_rfl) (fun _ _ _ h => h) (Or.inl ⟨by kernel_rfl, ?_⟩) (by assumption) ?_
      rotate_left
      · intro w hSw; (try dsimp only at hSw); go_simp; (try with_reducible rfl)
      (try simp only [Act.put, List.getElem_toArray, List.getElem_cons_zero, List.getElem_cons_succ, List.setIfInBounds_toArray, List.set_cons_zero, List.set_cons_succ])
      clear hr ho hl hHeld2 hHeld3
      refine wpAnyT_ready (rs := [7]) (by kernel_rfl) (by simp) ?_
      refine AllReadyT.fin rfl (fun K hK => ?_)
      go_simp
      refine hK.out _ _ ?_
      clear hK K
      (try simp only [Act.put, List.getElem_toArray, List.getElem_cons_zero, List.getElem_cons_succ, List.setIfInBounds_toArray, List.set_cons_zero, List.set_cons_succ])
      refine wpAnyT_done (by kernel_rfl) ?_ _
      have AI7 := Lib.hid q2
      obtain ⟨W7, hW7⟩ : ∃ W7, wa5.setCell ⟨w1.heap.size, 5, none⟩ (.slice ka5 (ks1.length + 1) kc5) = W7 := ⟨_, rfl⟩
      rw [show wa5.setCell ⟨w1.heap.size, 5, none⟩ (.slice ka5 (ks1.length + [(x5, v5)].length) kc5) = W7 from hW7] at AI7
      obtain ⟨⟨z0, z1, z2, z3, z4, z5⟩, _⟩ := nd_six AI7.out.box
      obtain ⟨⟨y0, y1, y2, y3, y4, y5⟩, f0, f1, f2, f3, f4, f5⟩ := nd_six AI7.out.res
      have HW7 := Lib.hid hW7
      clear hW7 q0 q1 q2
      rw [HW7.out]
      go_wp2_with fail
      refine AI7.out.end (y := .mk 16 x1.text x1.typ x1.frm x1.n (x1.kids ++ [x5])) (by rfl) rfl rfl ⟨rfl, rfl, rfl, rfl, rfl⟩ (by rw [HE3.out, HE5.out]; rfl) (by rw [List.map_append, ← HX1.out.1]; rfl) ⟨⟨by show (-9223372036854775808 : Int) ≤ 16; decide, by show (16 : Int) ≤ 9223372036854775807; decide⟩, HX1.out.2.2⟩ ?_
      have h1 := HL1.out
      have h2 := HL5.out
      rw [Nd.count_eq] at h1 ⊢
      rw [List.length_cons] at h1
      show 1 + Nd.countL (x1.kids ++ [x5]) + _ ≤ _
      rw [countL_snoc]; omega
    have hb14 : (x1.kind == 14) = false := by simpa using hk
    by_cases hk7 : x1.kind = 17
    · have HE3 := Lib.hid (show Ps.expr F l = (F .expr r).bind fun m r => .ok (.mk 18 x1.text x1.typ x1.frm x1.n (x1.kids ++ [m])) r by rw [HE2.out, show Ps.setK x1.kind = 18 by unfold Ps.setK; rw [hk7]; rfl]; rfl)
      have hb17 : (x1.kind == 17) = true := by rw [hk7]; rfl
      obtain ⟨⟨z0, z1, z2, z3, z4, z5⟩, g0, g1, g2, g3, g4, g5⟩ := nd_six AI2.out.box
      have hai := AI2.out.setKind (x' := .mk 18 x1.text x1.typ x1.frm x1.n x1.kids) ⟨rfl, rfl, rfl, rfl⟩
      obtain ⟨W3, hW3⟩ : ∃ W3, w2.setCell ⟨w1.heap.size, 0, none⟩ (.int .i64 18) = W3 := ⟨_, rfl⟩
      rw [show w2.setCell ⟨w1.heap.size, 0, none⟩ (.int .i64 (Nd.mk 18 x1.text x1.typ x1.frm x1.n x1.kids).kind) = W3 from hW3] at hai
      have AI3 := Lib.hid hai
      have HW3 := Lib.hid hW3
      have HM := Lib.hid (show ks1.length + 1 ≤ 60000 by have h1 := map_fst_len ks1; rw [← HX1.out.1] at h1; have h2 := HL1.out; rw [Nd.count_eq] at h2; have := HKM.out; omega)
      clear hai hW3 hk hk7
      go_wp2_with (rw [HW3.out])
      clear z0 z1 z2 z3 z4 z5 g0 g1 g2 g3 g4 g5
      refine (pnext_c _ AI3.out.pst HSR.out).mono ?_
      rintro e w4 ⟨rfl, h4, h5⟩
      have AI4 := Lib.hid (AI3.out.call h5 h4)
      clear h4 h5
      go_wp2_with fail
      refine wp_region_till (S := (fun W => W.cell? ⟨w1.heap.size, 5, none⟩ = some (.slice va1 ks1.length vc1))) 7 (by kernel_rfl) (AI4.out.drew.cell5) (fun hHeld0 => ?_)
      refine wpAnyT_take (i := 0) (v := ?_) rfl (by kernel_rfl) (by kernel_rfl) (by kernel_rfl) (fun _ _ _ h => h) (Or.inl ⟨by kernel_rfl, ?_⟩) (by assumption) ?_
      rotate_left
      · intro w hSw; (try dsimp only at hSw); go_simp; (try with_reducible rfl)
      (try simp only [Act.put, List.getElem_toArray, List.getElem_cons_zero, List.getElem_cons_succ, List.setIfInBounds_toArray, List.set_cons_zero, List.set_cons_succ])
      refine wpAnyT_take (i := 1) (v := ?_) rfl (by kernel_rfl) (by kernel_rfl) (by kernel_rfl) (fun _ _ _ h => h) (Or.inl ⟨by kernel_rfl, ?_⟩) (by assumption) ?_
      rotate_left
      · intro w hSw; (try dsimp only at hSw); go_simp; (try with_reducible rfl)
      (try simp only [Act.put, List.getElem_toArray, List.getElem_cons_zero, List.getElem_cons_succ, List.setIfInBounds_toArray, List.set_cons_zero, List.set_cons_succ])
      refine wpAnyT_take (i := 2) (v := ?_) rfl (by kernel_rfl) (by kernel_rfl) (by kernel_rfl) (fun _ _ _ h => h) (Or.inl ⟨by kernel_rfl, ?_⟩) (by assumption) ?_
      rotate_left
      · intro w hSw; (try dsimp only at hSw); go_simp; (try with_reducible rfl)
      (try simp only [Act.put, List.getElem_toArray, List.getElem_cons_zero, List.getElem_cons_succ, List.setIfInBounds_toArray, List.set_cons_zero, List.set_cons_succ])
      refine wpAnyT_ready (rs := [3]) (by kernel_rfl) (by simp) ?_
      refine AllReadyT.cons rfl (fun K hK => ?_) AllReadyT.nil
      go_simp
      refine ((hF.expr r _ (by have h1 := HL1.out; have := HKL.out; have := Nd.count_pos x1; rw [List.length_cons] at h1; omega) AI4.out.pst.drew)).mono ?_
      rintro e w5 (⟨x5, ks5, r5, v5, h1, rfl, hx, hk, h4, h5, hok, h7⟩ | ⟨q, hb, rfl, ho⟩)
      rotate_left
      · have HH := Lib.hid (show Ps.expr F l = .bad q ∧ Only (· = p.B) w w5 from ⟨by simp only [HE3.out, hb, Ps.O.bind_ok, Ps.O.bind_bad, eq_self, if_true, Bool.false_eq_true, if_false], AI4.out.drew.only.trans ho⟩)
        clear hb ho
        exact ⟨rfl, .inr ⟨_, HH.out.1, rfl, HH.out.2⟩⟩
      have HE5 := Lib.hid h1
      have HX5 := Lib.hid (And.intro hx hok)
      have HL5 := Lib.hid h7
      obtain ⟨ai5, hs5, h25⟩ := AI4.out.drew.asks h5 h4 hx hk hok
      refine hK.out _ _ ((AI4.out.drew.call h5 h4).cell5) (fun hHeld1 => ?_)
      clear hK K
      (try simp only [Act.put, List.getElem_toArray, List.getElem_cons_zero, List.getElem_cons_succ, List.setIfInBounds_toArray, List.set_cons_zero, List.set_cons_succ])
      refine wpAnyT_ready (rs := [4]) (by kernel_rfl) (by simp) ?_
      refine AllReadyT.cons rfl (fun K hK => ?_) AllReadyT.nil
      go_simp
      refine hK.out _ _ ai5.cell5 (fun hHeld2 => ?_)
      clear hK K
      (try simp only [Act.put, List.getElem_toArray, List.getElem_cons_zero, List.getElem_cons_succ, List.setIfInBounds_toArray, List.set_cons_zero, List.set_cons_succ])
      have AJ5 := Lib.hid ai5
      have HS5 := Lib.hid hs5
      have H25 := Lib.hid h25
      clear ai5 hs5 h25 h1 hx hk h4 h5 hok h7 hHeld0 hHeld1
      refine wpAnyT_ready (rs := [5]) (by kernel_rfl) (by simp) ?_
      refine AllReadyT.cons rfl (fun K hK => ?_) AllReadyT.nil
      refine step_nd (k2 := [(x5, v5)]) (.tmp 24) (.tmp 27) rfl rfl rfl AJ5.out.row rfl HS5.out H25.out AJ5.out.size (by first | (simp; done) | (have := HM.out; simp; omega)) ?_
      intro ka5 kc5 wa5 hr ho hl
      obtain ⟨q0, q1, q2⟩ := AJ5.out.more hr ho hl
      refine hK.out _ _ q0 (fun hHeld3 => ?_)
      clear hK K
      (try simp only [Act.put, List.getElem_toArray, List.getElem_cons_zero, List.getElem_cons_succ, List.setIfInBounds_toArray, List.set_cons_zero, List.set_cons_succ])
      refine wpAnyT_take (i := 6) (v := ?_) rfl (by kernel_rfl) (by kernel_rfl) (by kernel_rfl) (fun _ _ _ h => h) (Or.inl ⟨by kernel_rfl, ?_⟩) (by assumption) ?_
      rotate_left
      · intro w hSw; (try dsimp only at hSw); go_simp; (try with_reducible rfl)
      (try simp only [Act.put, List.getElem_toArray, List.getElem_cons_zero, List.getElem_cons_succ, List.setIfInBounds_toArray, List.set_cons_zero, List.set_cons_succ])
      clear hr ho hl hHeld2 hHeld3
      refine wpAnyT_ready (rs := [7]) (by kernel_rfl) (by simp) ?_
      refine AllReadyT.fin rfl (fun K hK => ?_)
      go_simp
      refine hK.out _ _ ?_
      clear hK K
      (try simp only [Act.put, List.getElem_toArray, List.getElem_cons_zero, List.getElem_cons_succ, List.setIfInBounds_toArray, List.set_cons_zero, List.set_cons_succ])
      refine wpAnyT_done (by kernel_rfl) ?_ _
      have AI7 := Lib.hid q2
      obtain ⟨W7, hW7⟩ : ∃ W7, wa5.setCell ⟨w1.heap.size, 5, none⟩ (.slice ka5 (ks1.length + 1) kc5) = W7 := ⟨_, rfl⟩
      rw [show wa5.setCell ⟨w1.heap.size, 5, none⟩ (.slice ka5 (ks1.length + [(x5, v5)].length) kc5) = W7 from hW7] at AI7
      obtain ⟨⟨z0, z1, z2, z3, z4, z5⟩, _⟩ := nd_six AI7.out.box
      obtain ⟨⟨y0, y1, y2, y3, y4, y5⟩, f0, f1, f2, f3, f4, f5⟩ := nd_six AI7.out.res
      have HW7 := Lib.hid hW7
      clear hW7 q0 q1 q2
      rw [HW7.out]
      go_wp2_with fail
      refine AI7.out.end (y := .mk 18 x1.text x1.typ x1.frm x1.n (x1.kids ++ [x5])) (by rfl) rfl rfl ⟨rfl, rfl, rfl, rfl, rfl⟩ (by rw [HE3.out, HE5.out]; rfl) (by rw [List.map_append, ← HX1.out.1]; rfl) ⟨⟨by show (-9223372036854775808 : Int) ≤ 18; decide, by show (18 : Int) ≤ 9223372036854775807; decide⟩, HX1.out.2.2⟩ ?_
      have h1 := HL1.out
      have h2 := HL5.out
      rw [Nd.count_eq] at h1 ⊢
      rw [List.length_cons] at h1
      show 1 + Nd.countL (x1.kids ++ [x5]) + _ ≤ _
      rw [countL_snoc]; omega
    have hb17 : (x1.kind == 17) = false := by simpa using hk7
    have HE3 := Lib.hid (show Ps.expr F l = .bad t.pos by rw [HE2.out, if_pos (by unfold Ps.setK; rw [if_neg hk, if_neg hk7])])
    obtain ⟨⟨z0, z1, z2, z3, z4, z5⟩, g0, g1, g2, g3, g4, g5⟩ := nd_six AI2.out.box
    clear hk hk7
    go_wp2_with fail
    refine (prefuse_c _ AI2.out.pst).mono ?_
    rintro e w3 ⟨rfl, k3⟩
    have HH := Lib.hid (AI2.out.only.trans (Only.of_kept k3))
    clear k3
    go_wp2_with fail
    exact ⟨rfl, .inr ⟨_, HE3.out, rfl, HH.out⟩⟩
end
end Go.Proofs.YtfkmnpgpfmkjaaaGreatDoor
namespace Go.Proofs.YtfkmnpgpfmkjaaaGreatDoor
open Go.ChangeShapes Go.WideShapes Go.ChangeAt Go.RowKit
attribute [local go_sem] Oper.semAt_some
open Ps (O W)

/-- Which way begins with which token. -/
def wayF (x : ByteArray) : Option Value :=
  if x = ⟨#[108, 101, 110]⟩ then some (.func (.func 72) #[] #[]) else
  if x = ⟨#[105, 110, 116]⟩ then some (.func (.func 72) #[] #[]) else
  if x = ⟨#[114, 101, 97, 108]⟩ then some (.func (.func 72) #[] #[]) else
  if x = ⟨#[112, 114, 105, 110, 116]⟩ then some (.func (.func 71) #[] #[]) else
  if x = ⟨#[114, 101, 97, 100]⟩ then some (.func (.func 70) #[] #[]) else
  if x = ⟨#[119, 104, 105, 108, 101]⟩ then some (.func (.func 69) #[] #[]) else
  if x = ⟨#[105, 102]⟩ then some (.func (.func 68) #[] #[]) else
  if x = ⟨#[110, 101, 119]⟩ then some (.func (.func 67) #[] #[]) else
  if x = ⟨#[115, 117, 112, 101, 114]⟩ then some (.func (.func 66) #[] #[]) else
  if x = ⟨#[97, 32, 110, 97, 109, 101]⟩ then some (.func (.func 65) #[] #[]) else
  if x = ⟨#[116, 104, 105, 115]⟩ then some (.func (.func 64) #[] #[]) else
  if x = ⟨#[110, 111, 110, 101]⟩ then some (.func (.func 63) #[] #[]) else
  if x = ⟨#[40]⟩ then some (.func (.func 62) #[] #[]) else
  if x = ⟨#[97, 32, 115, 116, 114, 105, 110, 103]⟩ then some (.func (.func 61) #[] #[]) else
  if x = ⟨#[102, 97, 108, 115, 101]⟩ then some (.func (.func 60) #[] #[]) else
  if x = ⟨#[116, 114, 117, 101]⟩ then some (.func (.func 59) #[] #[]) else
  if x = ⟨#[105, 110, 102]⟩ then some (.func (.func 58) #[] #[]) else
  if x = ⟨#[110, 97, 110]⟩ then some (.func (.func 58) #[] #[]) else
  if x = ⟨#[97, 32, 114, 101, 97, 108]⟩ then some (.func (.func 57) #[] #[]) else
  if x = ⟨#[97, 110, 32, 105, 110, 116]⟩ then some (.func (.func 56) #[] #[]) else
  none

section
variable {p : PP} {F : Ps.Fam} {k : Nat}
theorem ways_none (hp : p.f = wayF) (t : Lx.T) (r : List Lx.T) (h : p.f (Ps.srt t) = none) : Ps.prim F (t :: r) = .bad t.pos := by
  rw [hp] at h
  unfold wayF at h
  by_cases n0 : Ps.srt t = ⟨#[108, 101, 110]⟩
  · rw [if_pos n0] at h; cases h
  rw [if_neg n0] at h
  by_cases n1 : Ps.srt t = ⟨#[105, 110, 116]⟩
  · rw [if_pos n1] at h; cases h
  rw [if_neg n1] at h
  by_cases n2 : Ps.srt t = ⟨#[114, 101, 97, 108]⟩
  · rw [if_pos n2] at h; cases h
  rw [if_neg n2] at h
  by_cases n3 : Ps.srt t = ⟨#[112, 114, 105, 110, 116]⟩
  · rw [if_pos n3] at h; cases h
  rw [if_neg n3] at h
  by_cases n4 : Ps.srt t = ⟨#[114, 101, 97, 100]⟩
  · rw [if_pos n4] at h; cases h
  rw [if_neg n4] at h
  by_cases n5 : Ps.srt t = ⟨#[119, 104, 105, 108, 101]⟩
  · rw [if_pos n5] at h; cases h
  rw [if_neg n5] at h
  by_cases n6 : Ps.srt t = ⟨#[105, 102]⟩
  · rw [if_pos n6] at h; cases h
  rw [if_neg n6] at h
  by_cases n7 : Ps.srt t = ⟨#[110, 101, 119]⟩
  · rw [if_pos n7] at h; cases h
  rw [if_neg n7] at h
  by_cases n8 : Ps.srt t = ⟨#[115, 117, 112, 101, 114]⟩
  · rw [if_pos n8] at h; cases h
  rw [if_neg n8] at h
  by_cases n9 : Ps.srt t = ⟨#[97, 32, 110, 97, 109, 101]⟩
  · rw [if_pos n9] at h; cases h
  rw [if_neg n9] at h
  by_cases n10 : Ps.srt t = ⟨#[116, 104, 105, 115]⟩
  · rw [if_pos n10] at h; cases h
  rw [if_neg n10] at h
  by_cases n11 : Ps.srt t = ⟨#[110, 111, 110, 101]⟩
  · rw [if_pos n11] at h; cases h
  rw [if_neg n11] at h
  by_cases n12 : Ps.srt t = ⟨#[40]⟩
  · rw [if_pos n12] at h; cases h
  rw [if_neg n12] at h
  by_cases n13 : Ps.srt t = ⟨#[97, 32, 115, 116, 114, 105, 110, 103]⟩
  · rw [if_pos n13] at h; cases h
  rw [if_neg n13] at h
  by_cases n14 : Ps.srt t = ⟨#[102, 97, 108, 115, 101]⟩
  · rw [if_pos n14] at h; cases h
  rw [if_neg n14] at h
  by_cases n15 : Ps.srt t = ⟨#[116, 114, 117, 101]⟩
  · rw [if_pos n15] at h; cases h
  rw [if_neg n15] at h
  by_cases n16 : Ps.srt t = ⟨#[105, 110, 102]⟩
  · rw [if_pos n16] at h; cases h
  rw [if_neg n16] at h
  by_cases n17 : Ps.srt t = ⟨#[110, 97, 110]⟩
  · rw [if_pos n17] at h; cases h
  rw [if_neg n17] at h
  by_cases n18 : Ps.srt t = ⟨#[97, 32, 114, 101, 97, 108]⟩
  · rw [if_pos n18] at h; cases h
  rw [if_neg n18] at h
  by_cases n19 : Ps.srt t = ⟨#[97, 110, 32, 105, 110, 116]⟩
  · rw [if_pos n19] at h; cases h
  rw [if_neg n19] at h
  unfold Ps.prim
  dsimp only
  rw [if_neg n19]
  rw [if_neg n18]
  rw [if_neg n17]
  rw [if_neg n16]
  rw [if_neg n15]
  rw [if_neg n14]
  rw [if_neg n13]
  rw [if_neg n12]
  rw [if_neg n11]
  rw [if_neg n10]
  rw [if_neg n9]
  rw [if_neg n8]
  rw [if_neg n7]
  rw [if_neg n6]
  rw [if_neg n5]
  rw [if_neg n4]
  rw [if_neg n3]
  rw [if_neg n2]
  rw [if_neg n1]
  rw [if_neg n0]

theorem ways_some (hF : FamC p F k) (hp : p.f = wayF) (t : Lx.T) (r : List Lx.T) (v : Value) (h : p.f (Ps.srt t) = some v) :
    Ps.srt t ≠ Ps.theEnd ∧ ∃ g way, v = .func (.func g) #[] #[] ∧ (∀ args w, (callFunc g args).run Tryz.prog w = .ok (.enter g args) w) ∧ WayC p k g way ∧ Ps.prim F (t :: r) = way t r := by
  rw [hp] at h
  unfold wayF at h
  by_cases n : Ps.srt t = ⟨#[108, 101, 110]⟩
  · rw [if_pos n] at h
    injection h with h
    subst h
    refine ⟨by rw [n]; decide +kernel, _, _, rfl, enters_of Tryz.func72 (by kernel_rfl) rfl, conv_c hF, ?_⟩
    unfold Ps.prim
    dsimp only
    rw [n]
    rfl
  rw [if_neg n] at h
  clear n
  by_cases n : Ps.srt t = ⟨#[105, 110, 116]⟩
  · rw [if_pos n] at h
    injection h with h
    subst h
    refine ⟨by rw [n]; decide +kernel, _, _, rfl, enters_of Tryz.func72 (by kernel_rfl) rfl, conv_c hF, ?_⟩
    unfold Ps.prim
    dsimp only
    rw [n]
    rfl
  rw [if_neg n] at h
  clear n
  by_cases n : Ps.srt t = ⟨#[114, 101, 97, 108]⟩
  · rw [if_pos n] at h
    injection h with h
    subst h
    refine ⟨by rw [n]; decide +kernel, _, _, rfl, enters_of Tryz.func72 (by kernel_rfl) rfl, conv_c hF, ?_⟩
    unfold Ps.prim
    dsimp only
    rw [n]
    rfl
  rw [if_neg n] at h
  clear n
  by_cases n : Ps.srt t = ⟨#[112, 114, 105, 110, 116]⟩
  · rw [if_pos n] at h
    injection h with h
    subst h
    refine ⟨by rw [n]; decide +kernel, _, _, rfl, enters_of Tryz.func71 (by kernel_rfl) rfl, print_c hF, ?_⟩
    unfold Ps.prim
    dsimp only
    rw [n]
    rfl
  rw [if_neg n] at h
  clear n
  by_cases n : Ps.srt t = ⟨#[114, 101, 97, 100]⟩
  · rw [if_pos n] at h
    injection h with h
    subst h
    refine ⟨by rw [n]; decide +kernel, _, _, rfl, enters_of Tryz.func70 (by kernel_rfl) rfl, read_c, ?_⟩
    unfold Ps.prim
    dsimp only
    rw [n]
    rfl
  rw [if_neg n] at h
  clear n
  by_cases n : Ps.srt t = ⟨#[119, 104, 105, 108, 101]⟩
  · rw [if_pos n] at h
    injection h with h
    subst h
    refine ⟨by rw [n]; decide +kernel, _, _, rfl, enters_of Tryz.func69 (by kernel_rfl) rfl, loop_c hF, ?_⟩
    unfold Ps.prim
    dsimp only
    rw [n]
    rfl
  rw [if_neg n] at h
  clear n
  by_cases n : Ps.srt t = ⟨#[105, 102]⟩
  · rw [if_pos n] at h
    injection h with h
    subst h
    refine ⟨by rw [n]; decide +kernel, _, _, rfl, enters_of Tryz.func68 (by kernel_rfl) rfl, choice_c hF, ?_⟩
    unfold Ps.prim
    dsimp only
    rw [n]
    rfl
  rw [if_neg n] at h
  clear n
  by_cases n : Ps.srt t = ⟨#[110, 101, 119]⟩
  · rw [if_pos n] at h
    injection h with h
    subst h
    refine ⟨by rw [n]; decide +kernel, _, _, rfl, enters_of Tryz.func67 (by kernel_rfl) rfl, object_c hF, ?_⟩
    unfold Ps.prim
    dsimp only
    rw [n]
    rfl
  rw [if_neg n] at h
  clear n
  by_cases n : Ps.srt t = ⟨#[115, 117, 112, 101, 114]⟩
  · rw [if_pos n] at h
    injection h with h
    subst h
    refine ⟨by rw [n]; decide +kernel, _, _, rfl, enters_of Tryz.func66 (by kernel_rfl) rfl, super_c hF, ?_⟩
    unfold Ps.prim
    dsimp only
    rw [n]
    rfl
  rw [if_neg n] at h
  clear n
  by_cases n : Ps.srt t = ⟨#[97, 32, 110, 97, 109, 101]⟩
  · rw [if_pos n] at h
    injection h with h
    subst h
    refine ⟨by rw [n]; decide +kernel, _, _, rfl, enters_of Tryz.func65 (by kernel_rfl) rfl, variable_c, ?_⟩
    unfold Ps.prim
    dsimp only
    rw [n]
    rfl
  rw [if_neg n] at h
  clear n
  by_cases n : Ps.srt t = ⟨#[116, 104, 105, 115]⟩
  · rw [if_pos n] at h
    injection h with h
    subst h
    refine ⟨by rw [n]; decide +kernel, _, _, rfl, enters_of Tryz.func64 (by kernel_rfl) rfl, this_c, ?_⟩
    unfold Ps.prim
    dsimp only
    rw [n]
    rfl
  rw [if_neg n] at h
  clear n
  by_cases n : Ps.srt t = ⟨#[110, 111, 110, 101]⟩
  · rw [if_pos n] at h
    injection h with h
    subst h
    refine ⟨by rw [n]; decide +kernel, _, _, rfl, enters_of Tryz.func63 (by kernel_rfl) rfl, pnone_c, ?_⟩
    unfold Ps.prim
    dsimp only
    rw [n]
    rfl
  rw [if_neg n] at h
  clear n
  by_cases n : Ps.srt t = ⟨#[40]⟩
  · rw [if_pos n] at h
    injection h with h
    subst h
    refine ⟨by rw [n]; decide +kernel, _, _, rfl, enters_of Tryz.func62 (by kernel_rfl) rfl, brackets_c hF, ?_⟩
    unfold Ps.prim
    dsimp only
    rw [n]
    rfl
  rw [if_neg n] at h
  clear n
  by_cases n : Ps.srt t = ⟨#[97, 32, 115, 116, 114, 105, 110, 103]⟩
  · rw [if_pos n] at h
    injection h with h
    subst h
    refine ⟨by rw [n]; decide +kernel, _, _, rfl, enters_of Tryz.func61 (by kernel_rfl) rfl, text1_c, ?_⟩
    unfold Ps.prim
    dsimp only
    rw [n]
    rfl
  rw [if_neg n] at h
  clear n
  by_cases n : Ps.srt t = ⟨#[102, 97, 108, 115, 101]⟩
  · rw [if_pos n] at h
    injection h with h
    subst h
    refine ⟨by rw [n]; decide +kernel, _, _, rfl, enters_of Tryz.func60 (by kernel_rfl) rfl, no_c, ?_⟩
    unfold Ps.prim
    dsimp only
    rw [n]
    rfl
  rw [if_neg n] at h
  clear n
  by_cases n : Ps.srt t = ⟨#[116, 114, 117, 101]⟩
  · rw [if_pos n] at h
    injection h with h
    subst h
    refine ⟨by rw [n]; decide +kernel, _, _, rfl, enters_of Tryz.func59 (by kernel_rfl) rfl, yes_c, ?_⟩
    unfold Ps.prim
    dsimp only
    rw [n]
    rfl
  rw [if_neg n] at h
  clear n
  by_cases n : Ps.srt t = ⟨#[105, 110, 102]⟩
  · rw [if_pos n] at h
    injection h with h
    subst h
    refine ⟨by rw [n]; decide +kernel, _, _, rfl, enters_of Tryz.func58 (by kernel_rfl) rfl, noNumber_c, ?_⟩
    unfold Ps.prim
    dsimp only
    rw [n]
    rfl
  rw [if_neg n] at h
  clear n
  by_cases n : Ps.srt t = ⟨#[110, 97, 110]⟩
  · rw [if_pos n] at h
    injection h with h
    subst h
    refine ⟨by rw [n]; decide +kernel, _, _, rfl, enters_of Tryz.func58 (by kernel_rfl) rfl, noNumber_c, ?_⟩
    unfold Ps.prim
    dsimp only
    rw [n]
    rfl
  rw [if_neg n] at h
  clear n
  by_cases n : Ps.srt t = ⟨#[97, 32, 114, 101, 97, 108]⟩
  · rw [if_pos n] at h
    injection h with h
    subst h
    refine ⟨by rw [n]; decide +kernel, _, _, rfl, enters_of Tryz.func57 (by kernel_rfl) rfl, real_c, ?_⟩
    unfold Ps.prim
    dsimp only
    rw [n]
    rfl
  rw [if_neg n] at h
  clear n
  by_cases n : Ps.srt t = ⟨#[97, 110, 32, 105, 110, 116]⟩
  · rw [if_pos n] at h
    injection h with h
    subst h
    refine ⟨by rw [n]; decide +kernel, _, _, rfl, enters_of Tryz.func56 (by kernel_rfl) rfl, whole_c, ?_⟩
    unfold Ps.prim
    dsimp only
    rw [n]
    rfl
  rw [if_neg n] at h
  clear n
  cases h

theorem ways_c (hF : FamC p F k) (hp : p.f = wayF) : Ways p F k := ⟨fun t r v h => ways_some hF hp t r v h, fun t r h => ways_none hp t r h⟩

theorem fam_c (hp : p.f = wayF) : ∀ k, FamC p (Ps.run k) k
  | 0 => by
    refine ⟨?_, ?_, ?_, ?_⟩
    all_goals
      intros
      rename_i hl hP
      exact absurd (List.eq_nil_of_length_eq_zero (by omega)) hP.good.ne
  | k + 1 => by
    have hF := fam_c hp k
    have hW := ways_c hF hp
    exact ⟨fun l w hl hP => pexpr_c hF hW l w hl hP, fun i l w hi hl hP => operation_c hF hW i hi l w hl hP, fun l w hl hP => unary_c hF hW l w hl hP, fun l w hl hP => block_c hF l w hl hP⟩
end
end Go.Proofs.YtfkmnpgpfmkjaaaGreatDoor
namespace Go.Proofs.YtfkmnpgpfmkjaaaGreatDoor
open Go.RowKit Go.Shelf
attribute [local go_sem] Oper.semAt_some

/-- What the tables hold: the base types with their tags; which bytes are blanks. -/
def bcs : Array Value := (Wrd.bs.zipIdx.flatMap fun x => [Value.string x.1, Value.int .i64 (x.2 + 1)]).toArray

/-- Which letters stand behind a sign of escape, and what each means. -/
def ecs : Array Value := #[.int .u8 34, .int .u8 34, .int .u8 92, .int .u8 92, .int .u8 110, .int .u8 10]

def spl : List Int := (List.range 256).map fun c => if Wrd.spB (UInt8.ofNat c) then 1 else 0

def spcs : Array Value := (spl.map fun z => Value.int .u8 z).toArray

/-- The tables are as the program's text lays them. -/
def Tb (w : World) : Prop := (∃ t fr, w.heap[4]? = some (.cells bcs t fr)) ∧ (∃ t fr, w.heap[2]? = some (.cells spcs t fr)) ∧ (∃ t fr, w.heap[1]? = some (.cells ecs t fr))

/-- The tables' blocks. -/
def TbP (k : Nat) : Prop := k = 4 ∨ k = 2 ∨ k = 1

theorem Tb.same {w w' : World} (h : Tb w) (hs : ∀ k, TbP k → w'.heap[k]? = w.heap[k]?) : Tb w' := by
  obtain ⟨⟨t0, f0, a⟩, ⟨t1, f1, b⟩, ⟨t2, f2, c⟩⟩ := h
  exact ⟨⟨t0, f0, (hs _ (.inl rfl)).trans a⟩, ⟨t1, f1, (hs _ (.inr (.inl rfl))).trans b⟩, ⟨t2, f2, (hs _ (.inr (.inr rfl))).trans c⟩⟩

theorem Tb.ltP {w : World} (h : Tb w) (k : Nat) (hk : TbP k) : k < w.heap.size := by
  obtain ⟨⟨t0, f0, a⟩, ⟨t1, f1, b⟩, ⟨t2, f2, c⟩⟩ := h
  rcases hk with rfl | rfl | rfl
  · exact (Array.getElem?_eq_some_iff.1 a).1
  · exact (Array.getElem?_eq_some_iff.1 b).1
  · exact (Array.getElem?_eq_some_iff.1 c).1

theorem Tb.lt {w : World} (h : Tb w) : 4 < w.heap.size ∧ 2 < w.heap.size ∧ 1 < w.heap.size := ⟨h.ltP _ (.inl rfl), h.ltP _ (.inr (.inl rfl)), h.ltP _ (.inr (.inr rfl))⟩

theorem Tb.blank {w : World} (h : Tb w) (c : UInt8) : w.cell? ⟨2, c.toNat, none⟩ = some (.int .u8 (if Wrd.spB c then 1 else 0)) := by
  obtain ⟨_, ⟨u, gr, b⟩, _⟩ := h
  rw [cell_of_row w _ _ spcs u gr b]
  have hc := c.toNat_lt
  unfold spcs spl
  simp [List.getElem?_map, List.getElem?_range hc]

theorem Tb.esc {w : World} (h : Tb w) : ∃ t fr, w.heap[1]? = some (.cells ecs t fr) := by
  obtain ⟨_, _, h⟩ := h
  exact h

theorem Tb.kept {w w' : World} (h : Tb w) (k : Kept w w') : Tb w' := h.same fun i hi => k.block i (h.ltP i hi)

/-- Blocks are as they were: the tables, and one more. -/
def Kp3 (Bn : Nat) (W W' : World) : Prop := W.heap.size ≤ W'.heap.size ∧ ∀ k, TbP k ∨ k = Bn → W'.heap[k]? = W.heap[k]?

theorem kp3_t {Bn : Nat} {A B C : World} (h : Kp3 Bn A B) (k : Kp3 Bn B C) : Kp3 Bn A C := ⟨Nat.le_trans h.1 k.1, fun i hi => (k.2 i hi).trans (h.2 i hi)⟩

theorem kp3_b {Bn : Nat} {w : World} (hT : Tb w) (hB : Bn < w.heap.size) (W : World) (l : Nat) (o o' : Obj) (hl : w.heap.size ≤ l) (h : W.heap[l]? = some o) (_ : o.isCells = false) (_ : o.isWalk = false) : Kp3 Bn W (W.putObj l o') := by
  refine ⟨by simp [World.putObj], fun k hk => World.putObj_heap_other ?_⟩
  rcases hk with hk | rfl
  · have := hT.ltP k hk; omega
  · omega

theorem Kp3.of_kept {Bn : Nat} {W W' : World} (hT : Tb W) (hB : Bn < W.heap.size) (k : Kept W W') : Kp3 Bn W W' := by
  refine ⟨k.size, fun i hi => k.block i ?_⟩
  rcases hi with hi | rfl
  · exact hT.ltP i hi
  · exact hB

/-- Where a field began. -/
def stV : Option Nat → Int
  | none => -1
  | some b => b

theorem yield_lt {s : ByteArray} {pre : List ByteArray} {x : ByteArray} (h : pre ++ [x] <+: Wrd.flds s) : pre.length < (Wrd.flds s).length := by
  have := h.length_le
  simp at this
  omega

theorem st_end {s : ByteArray} {k b : Nat} {pre : List ByteArray} (hk : k < s.size) (h : Wrd.st s k = (some b, pre)) (hc : Wrd.spB (s.data.toList.getD k 0) = true) : Wrd.st s (k + 1) = (none, pre ++ [s.extract b k]) := by
  conv => lhs; unfold Wrd.st
  rw [h]; dsimp only; rw [if_pos hc]
theorem st_goes {s : ByteArray} {k b : Nat} {pre : List ByteArray} (h : Wrd.st s k = (some b, pre)) (hc : Wrd.spB (s.data.toList.getD k 0) = false) : Wrd.st s (k + 1) = (some b, pre) := by
  conv => lhs; unfold Wrd.st
  rw [h]; dsimp only; rw [hc]; rfl
theorem st_none {s : ByteArray} {k : Nat} {pre : List ByteArray} (h : Wrd.st s k = (none, pre)) (hc : Wrd.spB (s.data.toList.getD k 0) = true) : Wrd.st s (k + 1) = (none, pre) := by
  conv => lhs; unfold Wrd.st
  rw [h]; dsimp only; rw [hc]; rfl
theorem st_opens {s : ByteArray} {k : Nat} {pre : List ByteArray} (h : Wrd.st s k = (none, pre)) (hc : Wrd.spB (s.data.toList.getD k 0) = false) : Wrd.st s (k + 1) = (some k, pre) := by
  conv => lhs; unfold Wrd.st
  rw [h]; dsimp only; rw [hc]; rfl

set_option maxRecDepth 100000 in
set_option maxHeartbeats 2000000 in
theorem fseq1_in (F : Fence) (n : Nat) (h6 : F.fn 120) (hro : F.round = none) (hn : 1 ≤ n) (l Bn : Nat) (s : ByteArray) (hs : s.size ≤ 9223372036854775807) (ha : ∀ c ∈ s.data.toList, c.toNat < 128) (J Jx : List ByteArray → World → Prop)
    (hY : ∀ pre (x : ByteArray) W, J pre W → pre.length < (Wrd.flds s).length → YieldAt F (n - 1) Tryz.prog l #[.string x] W fun e W' =>
      (e = .returned (.bool true) ∧ J (pre ++ [x]) W' ∧ Kp3 Bn W W') ∨ (e = .returned (.bool false) ∧ Jx (pre ++ [x]) W'))
    (W : World) (hT : Tb W) (hBn : W.cell? ⟨Bn, 0, none⟩ = some (.string s)) (h0 : J [] W) :
    CallsIn F n Tryz.prog 120 #[.func (.yield l) #[] #[], .pointer (some ⟨Bn, 0, none⟩)] W fun e W' => (∃ v, e = .returned v) ∧
      ((∃ ys : List ByteArray, ys = Wrd.flds s ∧ J ys W') ∨ (∃ pre : List ByteArray, pre <+: Wrd.flds s ∧ Jx pre W')) := by
  refine callsIn_of_wp Tryz.func120 rfl h6 ?_ hro
  simp only [Tryz.ntmps120, List.size_toArray, List.length_cons, List.length_nil, Nat.reduceAdd, Nat.reduceSub, Array.replicate_succ, Array.replicate_zero, List.push_toArray, List.append_toArray, List.nil_append, List.cons_append]
  gi_wp2
  gi_loopw [3, 4] (fun b i wr => ∃ (k : Nat) (ob : Option Nat) (pre : List ByteArray), k ≤ s.size ∧ i = .int .i64 k ∧ b = .int .i64 (stV ob) ∧ Wrd.st s k = (ob, pre) ∧ J pre wr ∧ Tb wr ∧ wr.cell? ⟨Bn, 0, none⟩ = some (.string s))
    (fun b i wr => s.size - (intOf i).toNat)
  case atStart =>
    exact ⟨0, none, [], by omega, rfl, rfl, rfl, h0, hT, hBn⟩
  case round =>
    obtain ⟨k, ob, pre, hk, rfl, rfl, hst, hJ, hT, hB⟩ := hrel
    clear h0 hBn
    by_cases hlt : k < s.size
    · have hge : s.data.toList.getD k 0 = s[k] := by simp [List.getD, hlt]; rfl
      have hcell := hT.blank s[k]
      have hac : (s[k].toNat : Int) < 128 := by
        have := ha s[k] (by rw [← hge]; simp [List.getD, hlt])
        omega
      cases hsp : Wrd.spB s[k] with
      | true =>
        rw [hsp] at hcell
        rw [if_pos rfl] at hcell
        cases ob with
        | none =>
          have HS := Lib.hid (st_none hst (by rw [hge]; exact hsp))
          have HJ := Lib.hid hJ
          have HT := Lib.hid hT
          clear hst hJ hT hY ha hge hsp
          simp only [stV]
          gi_wp2
          go_roundw
          case rel => exact ⟨k + 1, none, pre, by omega, by go_num, rfl, HS.out, HJ.out, HT.out, hB⟩
          case measure => simp [intOf]; omega
        | some b =>
          have hbk := Wrd.st_lt s k b pre hst
          have hend := st_end hlt hst (by rw [hge]; exact hsp)
          have hpre : pre ++ [s.extract b k] <+: Wrd.flds s := by
            have := Wrd.st_flds s (k := k + 1) (by omega)
            rw [hend] at this; exact this
          obtain ⟨fn, tmps, assign, body, hy, hR⟩ := hY pre (s.extract b k) wr hJ (yield_lt hpre)
          have HS := Lib.hid hend
          have HP := Lib.hid hpre
          have HT := Lib.hid hT
          have HB := Lib.hid hB
          have hb0 : (0 : Int) ≤ (b : Int) := Int.natCast_nonneg b
          have hbk' : (b : Int) ≤ (k : Int) := by omega
          have hks : (k : Int) ≤ (s.size : Int) := by omega
          clear hst hJ hT hY ha hge hsp hend hpre
          simp only [stV]
          gi_wp2
          refine hR.mono ?_
          rintro e W3 (⟨rfl, hJ3, hk3⟩ | ⟨rfl, hJx3⟩)
          · have hT3 := HT.out.same (fun k hk => hk3.2 k (.inl hk))
            have hB3 : W3.cell? ⟨Bn, 0, none⟩ = some (.string s) := (World.cell?_of_block (w := wr) (hk3.2 Bn (.inr rfl))).trans HB.out
            have HJ := Lib.hid hJ3
            have HT3 := Lib.hid hT3
            clear hJ3 hT3 hk3
            gi_wp2
            go_roundw
            case rel => exact ⟨k + 1, none, _, by omega, by go_num, rfl, HS.out, HJ.out, HT3.out, hB3⟩
            case measure => simp [intOf]; omega
          · gi_wp2
            refine bodyPost_ret (results_none rfl _ _ _) rfl ?_
            exact ⟨⟨_, rfl⟩, .inr ⟨_, HP.out, hJx3⟩⟩
      | false =>
        rw [hsp] at hcell
        rw [if_neg (by decide)] at hcell
        cases ob with
        | none =>
          have HS := Lib.hid (st_opens hst (by rw [hge]; exact hsp))
          have HJ := Lib.hid hJ
          have HT := Lib.hid hT
          clear hst hJ hT hY ha hge hsp
          simp only [stV]
          gi_wp2
          go_roundw
          case rel => exact ⟨k + 1, some k, pre, by omega, by go_num, rfl, HS.out, HJ.out, HT.out, hB⟩
          case measure => simp [intOf]; omega
        | some b =>
          have HS := Lib.hid (st_goes hst (by rw [hge]; exact hsp))
          have HJ := Lib.hid hJ
          have HT := Lib.hid hT
          have hb0 : (0 : Int) ≤ (b : Int) := Int.natCast_nonneg b
          clear hst hJ hT hY ha hge hsp
          simp only [stV]
          gi_wp2
          go_roundw
          case rel => exact ⟨k + 1, some b, pre, by omega, by go_num, rfl, HS.out, HJ.out, HT.out, hB⟩
          case measure => simp [intOf]; omega
    · obtain rfl : k = s.size := by omega
      clear hlt
      cases ob with
      | none =>
        have HS := Lib.hid (show pre = Wrd.flds s by unfold Wrd.flds; rw [hst])
        have HJ := Lib.hid hJ
        clear hst hJ hY ha hT
        simp only [stV]
        gi_wp2
        refine bodyPost_end (results_none rfl _ _ _) rfl ?_
        exact ⟨⟨_, rfl⟩, .inl ⟨_, HS.out, HJ.out⟩⟩
      | some b =>
        have hbk := Wrd.st_lt s _ b pre hst
        have hfl : pre ++ [s.extract b s.size] = Wrd.flds s := by unfold Wrd.flds; rw [hst]
        obtain ⟨fn, tmps, assign, body, hy, hR⟩ := hY pre (s.extract b s.size) wr hJ (yield_lt (by rw [hfl]; exact List.prefix_refl _))
        have HS := Lib.hid hfl
        have hb0 : (0 : Int) ≤ (b : Int) := Int.natCast_nonneg b
        have hbk' : (b : Int) ≤ (s.size : Int) := by omega
        clear hst hJ hT hY ha hfl
        simp only [stV]
        gi_wp2
        refine hR.mono ?_
        rintro e W3 (⟨rfl, hJ3, hk3⟩ | ⟨rfl, hJx3⟩)
        · gi_wp2
          refine bodyPost_end (results_none rfl _ _ _) rfl ?_
          exact ⟨⟨_, rfl⟩, .inl ⟨_, HS.out, hJ3⟩⟩
        · gi_wp2
          refine bodyPost_end (results_none rfl _ _ _) rfl ?_
          exact ⟨⟨_, rfl⟩, .inr ⟨_, by rw [HS.out]; exact List.prefix_refl _, hJx3⟩⟩

theorem fseq_in (F : Fence) (n : Nat) (h5 : F.fn 110) (hro : F.round = none) (s : ByteArray) (w : World) :
    CallsIn F n Tryz.prog 110 #[.string s] w fun e w' => e = .returned (.func (.func 120) #[] #[.pointer (some ⟨w.heap.size, 0, none⟩)]) ∧ w' = w.alloc (.cells #[.string s] 9) := by
  refine callsIn_of_wp Tryz.func110 rfl h5 ?_ hro
  simp only [Tryz.ntmps110, List.size_toArray, List.length_cons, List.length_nil, Nat.reduceAdd, Nat.reduceSub, Array.replicate_succ, Array.replicate_zero, List.push_toArray, List.append_toArray, List.nil_append, List.cons_append]
  gi_wp2
  go_ret
  exact ⟨rfl, rfl⟩

theorem fseq_stops (F : Fence) (n : Nat) (h6 : F.fn 120) (hro : F.round = none) (hn : 1 ≤ n) (Bn : Nat) (s : ByteArray) (hs : s.size ≤ 9223372036854775807) (ha : ∀ c ∈ s.data.toList, c.toNat < 128) (w : World) (hT : Tb w) (hBn : Bn < w.heap.size)
    (hc : w.cell? ⟨Bn, 0, none⟩ = some (.string s)) :
    SeqStopsK F n Tryz.prog 120 #[.pointer (some ⟨Bn, 0, none⟩)] (fun x : ByteArray => #[Value.string x]) (Kp3 Bn) (fun ys => ys = Wrd.flds s) (fun pre => pre <+: Wrd.flds s) (Wrd.flds s).length w := fun l J Jx W hW _ _ hY h0 =>
  fseq1_in F n h6 hro hn l Bn s hs ha J Jx hY W (hT.kept (Kept.of_below hW)) ((hW.cell (p := ⟨Bn, 0, none⟩) hBn).trans hc) h0

end Go.Proofs.YtfkmnpgpfmkjaaaGreatDoor

namespace Go.Proofs.YtfkmnpgpfmkjaaaGreatDoor
open Go.ChangeShapes Go.WideShapes Go.ChangeAt Go.RowKit Go.Shelf
attribute [local go_sem] Oper.semAt_some

/-- Within the loop: the texts so far are other ones. -/
def KeyI (w : World) (s : ByteArray) (pre : List ByteArray) (W : World) : Prop :=
  Blk W w.heap.size 9 #[.string s] ∧ Blk W (w.heap.size + 1) 4 #[.bool false] ∧ Below w.heap.size w W ∧ s ∉ pre

/-- It was found. -/
def KeyX (w : World) (s : ByteArray) (c : Code) (pre : List ByteArray) (W : World) : Prop :=
  c = .ret ∧ Blk W (w.heap.size + 1) 4 #[.bool true] ∧ Below w.heap.size w W ∧ s ∈ pre

theorem Blk.grown {W W' : World} {g : Nat} {t : TypeId} {cs : Array Value} {row : Option Nat} (h : Blk W g t cs) (hg : W.grownBy W' row) (hr : ∀ r, row = some r → ∃ o : Obj, W.heap[r]? = some o ∧ o.isCells = false) : Blk W' g t cs := by
  refine (hg.block g h.lt fun e => ?_).trans h
  obtain ⟨o, ho, hc⟩ := hr g e.symm
  unfold Blk at h
  rw [h] at ho; cases ho; cases hc

theorem keyI_from (w : World) (s : ByteArray) (B : Nat) (hB : w.heap.size ≤ B) : OwnFrom B (KeyI w s) := by
  rintro pre X Y row ⟨h1, h2, h3, h4⟩ hg hr
  exact ⟨h1.grown hg fun r e => (hr r e).2, h2.grown hg fun r e => (hr r e).2, h3.grown hg h3.size (fun k e => Nat.le_trans hB (hr k e).1), h4⟩
theorem keyX_from (w : World) (s : ByteArray) (c : Code) (B : Nat) (hB : w.heap.size ≤ B) : OwnFrom B (KeyX w s c) := by
  rintro pre X Y row ⟨h0, h2, h3, h4⟩ hg hr
  exact ⟨h0, h2.grown hg fun r e => (hr r e).2, h3.grown hg h3.size (fun k e => Nat.le_trans hB (hr k e).1), h4⟩

/-- Texts compared, as the walk spells it. -/
theorem beq_no {x s : ByteArray} (h : ¬ x = s) : (x.toList == s.toList) = false := by
  cases e : x.toList == s.toList with
  | false => rfl
  | true =>
    have e' := eq_of_beq e
    rw [ByteArray.toList_eq, ByteArray.toList_eq] at e'
    exact absurd (ByteArray.ext (Array.toList_inj.1 e')) h

set_option maxRecDepth 100000 in
set_option maxHeartbeats 2000000 in
theorem key_b (s : ByteArray) (w : World) (hT : Tb w) :
    Calls Tryz.prog 105 #[.string s] w fun e w' => e = .returned (.bool (Wrd.key s)) ∧ Below w.heap.size w w' := by
  refine (callsIn_wide (n := 3)).1 (callsIn_of_wp_marks Tryz.func105 rfl trivial (wpIn_wide.2 ?_) rfl)
  simp only [Tryz.ntmps105, List.size_toArray, List.length_cons, List.length_nil, Nat.reduceAdd, Nat.reduceSub, Array.replicate_succ, Array.replicate_zero, List.push_toArray, List.append_toArray, List.nil_append, List.cons_append]
  go_wp2_with fail
  refine ((callsIn_wide (n := 1)).1 (fseq_in Fence.wide 1 trivial rfl Wrd.rs _)).mono ?_
  rintro e w' ⟨rfl, rfl⟩
  go_wp2_with fail
  have hK0 : Kept w (((w.alloc (.cells #[.string s] 9)).alloc (.cells #[.bool false] 4)).alloc (.cells #[.string Wrd.rs] 9)) := (((Kept.refl w).alloc _).alloc _).alloc _
  have hB0 : Below w.heap.size w (((w.alloc (.cells #[.string s] 9)).alloc (.cells #[.bool false] 4)).alloc (.cells #[.string Wrd.rs] 9)) := (((Below.refl _ w).alloc (Nat.le_refl _) _).alloc (by simp) _).alloc (by simp; omega) _
  have b1 := ((Blk.new w 9 #[.string s]).alloc (.cells #[.bool false] 4)).alloc (.cells #[.string Wrd.rs] 9)
  have b2 := (Blk.new (w.alloc (.cells #[.string s] 9)) 4 #[.bool false]).alloc (.cells #[.string Wrd.rs] 9)
  have b3 := Blk.new ((w.alloc (.cells #[.string s] 9)).alloc (.cells #[.bool false] 4)) 9 #[.string Wrd.rs]
  simp only [World.size_alloc] at b2 b3
  have hT0 := hT.kept hK0
  have hlt := hT.lt
  refine wpIn_wide.1 (wpIn_rangeFunc_ownG (F := Fence.wide) (n := 3) rfl (by omega) (gf := 120) (lb := #[.pointer (some ⟨w.heap.size + 1 + 1, 0, none⟩)]) rfl trivial (enters_of Tryz.func120 (by kernel_rfl) rfl)
    (fseq_stops Fence.wide (3 - 1) trivial rfl (by omega) (w.heap.size + 1 + 1) Wrd.rs Wrd.size_rs Wrd.ascii_rs _ hT0 (by simp) (b3.cell 0)) kp3_t (kp3_b hT0 (by simp)) (Below.refl _ _) (fun _ => rfl)
    (KeyI w s) (KeyX w s) (keyI_from w s _ (by simp; omega)) (fun c => keyX_from w s c _ (by simp; omega))
    ⟨b1, b2, hB0, by simp⟩
    (fun x => { tmps := #[.string s, .pointer (some ⟨w.heap.size, 0, none⟩), .pointer (some ⟨w.heap.size + 1, 0, none⟩), .string x, .func (.func 120) #[] #[.pointer (some ⟨w.heap.size + 1 + 1, 0, none⟩)], .string x, undef, undef, undef], defers := [] }) ?assign ?body ?done ?stop)
  case assign =>
    intro l x W K hK
    gi_wp2
    exact hK
  case body =>
    rintro l pre x W ⟨h1, h2, h3, h4⟩ hlt'
    have c1 := h1.cell 0
    have c2 := h2.cell 0
    have f2 := h2.frozen 0
    simp at c1 c2
    by_cases hx : x = s
    · subst hx
      have HX := Lib.hid (show KeyX w x .ret (pre ++ [x]) (W.setCell ⟨w.heap.size + 1, 0, none⟩ (.bool true)) from
        ⟨rfl, h2.put 0 _, h3.setCell (by simp) _, by simp⟩)
      clear h1 h2 h3 h4 hT hT0 hK0 hB0 b1 b2 b3
      gi_wp2
      exact ⟨(KeepsOthers.setCell _ _ _).from _, HX.out⟩
    · have HI := Lib.hid (show KeyI w s (pre ++ [x]) W from ⟨h1, h2, h3, by simp [h4]; exact fun e => hx e.symm⟩)
      clear h1 h2 h3 h4 hT hT0 hK0 hB0 b1 b2 b3
      have hne := beq_no hx
      clear hx
      gi_wp2
      exact ⟨KeepsFrom.refl _ _, ⟨Nat.le_refl _, fun _ _ => rfl⟩, HI.out⟩
  case done =>
    rintro D ys W hD hys ⟨h1, h2, h3, h4⟩ hK
    subst hys
    rw [Wrd.flds_rs] at h4
    have hkey : Wrd.key s = false := Wrd.has_no h4
    have c2 := h2.cell 0
    have f2 := h2.frozen 0
    simp at c2
    go_wp2
    have hK2 : (W.setCell ⟨w.heap.size + 1, 0, none⟩ (.bool false)).heap[D]? = some (.deferred (some [])) := (Below.heap_setCell W _ _ D (by simp at hD; simp; omega)).trans hK
    have h2' := h2.put 0 (.bool false)
    have h3' : Below w.heap.size w (W.setCell ⟨w.heap.size + 1, 0, none⟩ (.bool false)) := h3.setCell (by simp) _
    refine ⟨by simp, .inl ⟨_, _, rfl, run_takeDeferred hK2, ?_⟩⟩
    have c3 := (h2'.grown (grownBy_putObj' _ D (.deferred none)) (fun r e => by cases e; exact ⟨_, hK2, rfl⟩)).cell 0
    simp at c3
    exact ⟨_, by simp [results, Tryz.results105, go_sem, c3]; rfl, by rw [hkey], h3'.trans (belowK_b (w := w) (Nat.le_refl _) _ D _ _ (by simp at hD; omega) hK2 rfl rfl)⟩
  case stop =>
    rintro D c pre W hD hpre ⟨rfl, h2, h3, h4⟩ hK
    have hkey : Wrd.key s = true := Wrd.has_iff.2 (by rw [← Wrd.flds_rs]; exact hpre.subset h4)
    have c3 := (h2.grown (grownBy_putObj' _ D (.deferred none)) (fun r e => by cases e; exact ⟨_, hK, rfl⟩)).cell 0
    simp at c3
    gi_wp2
    refine ⟨by simp, .inl ⟨_, _, rfl, run_takeDeferred hK, ?_⟩⟩
    exact ⟨_, by simp [results, Tryz.results105, go_sem, c3]; rfl, by rw [hkey], h3.trans (belowK_b (w := w) (Nat.le_refl _) _ D _ _ (by simp at hD; omega) hK rfl rfl)⟩

theorem key_c (s : ByteArray) (w : World) (hT : Tb w) :
    Calls Tryz.prog 105 #[.string s] w fun e w' => e = .returned (.bool (Wrd.key s)) ∧ Kept w w' :=
  (key_b s w hT).mono fun _ _ ⟨h, k⟩ => ⟨h, Kept.of_below k⟩

end Go.Proofs.YtfkmnpgpfmkjaaaGreatDoor
namespace Go.Proofs.YtfkmnpgpfmkjaaaGreatDoor
open Go.ChangeShapes Go.WideShapes Go.ChangeAt Go.RowKit

theorem tagF_yes {b s : ByteArray} {r : List ByteArray} {k : Nat} (h : b = s) : Wrd.tagF (b :: r) k s = k := by rw [Wrd.tagF, if_pos h]
theorem tagF_no {b s : ByteArray} {r : List ByteArray} {k : Nat} (h : ¬ b = s) : Wrd.tagF (b :: r) k s = Wrd.tagF r (k + 1) s := by rw [Wrd.tagF, if_neg h]
theorem has_yes {b s : ByteArray} {r : List ByteArray} (h : b = s) : Wrd.has (b :: r) s = true := by unfold Wrd.has; simp [h]
theorem has_next {b s : ByteArray} {r : List ByteArray} (h : ¬ b = s) : Wrd.has (b :: r) s = Wrd.has r s := by unfold Wrd.has; simp [h]

abbrev bagg (b0 b1 b2 b3 b4 : ByteArray) : Value := .agg #[.string b0, .int .i64 1, .string b1, .int .i64 2, .string b2, .int .i64 3, .string b3, .int .i64 4, .string b4, .int .i64 5]

theorem bidx_0 (b0 b1 b2 b3 b4 : ByteArray) (W : World) : (Instr.index 175 (bagg b0 b1 b2 b3 b4) (.int .i64 0)).run Tryz.prog W = .ok (.agg #[.string b0, .int .i64 1]) W := rfl

theorem bidx_1 (b0 b1 b2 b3 b4 : ByteArray) (W : World) : (Instr.index 175 (bagg b0 b1 b2 b3 b4) (.int .i64 1)).run Tryz.prog W = .ok (.agg #[.string b1, .int .i64 2]) W := rfl

theorem bidx_2 (b0 b1 b2 b3 b4 : ByteArray) (W : World) : (Instr.index 175 (bagg b0 b1 b2 b3 b4) (.int .i64 2)).run Tryz.prog W = .ok (.agg #[.string b2, .int .i64 3]) W := rfl

theorem bidx_3 (b0 b1 b2 b3 b4 : ByteArray) (W : World) : (Instr.index 175 (bagg b0 b1 b2 b3 b4) (.int .i64 3)).run Tryz.prog W = .ok (.agg #[.string b3, .int .i64 4]) W := rfl

theorem bidx_4 (b0 b1 b2 b3 b4 : ByteArray) (W : World) : (Instr.index 175 (bagg b0 b1 b2 b3 b4) (.int .i64 4)).run Tryz.prog W = .ok (.agg #[.string b4, .int .i64 5]) W := rfl

/-- What Tag answers. -/
def TagPost (bl : List ByteArray) (s : ByteArray) (w : World) (e : Ending) (w' : World) : Prop :=
  e = .returned (.tuple #[.int .i64 (Wrd.tagF bl 1 s), .int .i64 (if Wrd.has bl s then 0 else 7)]) ∧ Kept w w'

set_option maxHeartbeats 2000000 in
theorem tag_g (b0 b1 b2 b3 b4 s : ByteArray) (w : World) (t : TypeId) (fr : Nat × Nat)
    (hc : w.heap[4]? = some (.cells #[.string b0, .int .i64 1, .string b1, .int .i64 2, .string b2, .int .i64 3, .string b3, .int .i64 4, .string b4, .int .i64 5] t fr)) :
    Calls Tryz.prog 125 #[.string s] w (TagPost [b0, b1, b2, b3, b4] s w) := by
  have c0 := cell_of_row w _ 0 _ t fr hc
  have c1 := cell_of_row w _ 1 _ t fr hc
  have c2 := cell_of_row w _ 2 _ t fr hc
  have c3 := cell_of_row w _ 3 _ t fr hc
  have c4 := cell_of_row w _ 4 _ t fr hc
  have c5 := cell_of_row w _ 5 _ t fr hc
  have c6 := cell_of_row w _ 6 _ t fr hc
  have c7 := cell_of_row w _ 7 _ t fr hc
  have c8 := cell_of_row w _ 8 _ t fr hc
  have c9 := cell_of_row w _ 9 _ t fr hc
  simp at c0 c1 c2 c3 c4 c5 c6 c7 c8 c9
  clear hc
  go_enter Tryz.func125, Tryz.ntmps125
  go_wp2
  clear c0 c1 c2 c3 c4 c5 c6 c7 c8 c9
  go_loopw [7] (fun i wr => ∃ k : Nat, k ≤ 5 ∧ i = .int .i64 k ∧ Kept w wr ∧ (Wrd.tagF [b0, b1, b2, b3, b4] 1 s = Wrd.tagF ([b0, b1, b2, b3, b4].drop k) (k + 1) s ∧ Wrd.has [b0, b1, b2, b3, b4] s = Wrd.has ([b0, b1, b2, b3, b4].drop k) s))
    (fun i wr => 5 - (intOf i).toNat)
  case atStart => exact ⟨0, by omega, rfl, Kept.refl _, rfl, rfl⟩
  case round =>
    obtain ⟨k, hk, rfl, hkp, he⟩ := hrel
    have hk' : k = 0 ∨ k = 1 ∨ k = 2 ∨ k = 3 ∨ k = 4 ∨ k = 5 := by omega
    rcases hk' with rfl | rfl | rfl | rfl | rfl | rfl
    · have hi := bidx_0 b0 b1 b2 b3 b4 wr
      by_cases hx : b0 = s
      · have HE := Lib.hid (show Wrd.tagF [b0, b1, b2, b3, b4] 1 s = 1 ∧ Wrd.has [b0, b1, b2, b3, b4] s = true by rw [he.1, he.2]; exact ⟨tagF_yes hx, has_yes hx⟩)
        have hb : (b0.toList == s.toList) = true := by rw [hx]; exact beq_self_eq_true _
        clear hx he
        go_wp2
        go_ret2
        exact ⟨by rw [HE.out.1, HE.out.2]; rfl, (hkp.alloc _)⟩
      · have HE := Lib.hid (show Wrd.tagF [b0, b1, b2, b3, b4] 1 s = Wrd.tagF ([b0, b1, b2, b3, b4].drop 1) (1 + 1) s ∧ Wrd.has [b0, b1, b2, b3, b4] s = Wrd.has ([b0, b1, b2, b3, b4].drop 1) s by rw [he.1, he.2]; exact ⟨tagF_no hx, has_next hx⟩)
        have hb := beq_no hx
        clear hx he
        go_wp2
        go_roundw
        case rel => exact ⟨1, by omega, rfl, (hkp.alloc _), HE.out⟩
        case measure => simp [intOf]
    · have hi := bidx_1 b0 b1 b2 b3 b4 wr
      by_cases hx : b1 = s
      · have HE := Lib.hid (show Wrd.tagF [b0, b1, b2, b3, b4] 1 s = 2 ∧ Wrd.has [b0, b1, b2, b3, b4] s = true by rw [he.1, he.2]; exact ⟨tagF_yes hx, has_yes hx⟩)
        have hb : (b1.toList == s.toList) = true := by rw [hx]; exact beq_self_eq_true _
        clear hx he
        go_wp2
        go_ret2
        exact ⟨by rw [HE.out.1, HE.out.2]; rfl, (hkp.alloc _)⟩
      · have HE := Lib.hid (show Wrd.tagF [b0, b1, b2, b3, b4] 1 s = Wrd.tagF ([b0, b1, b2, b3, b4].drop 2) (2 + 1) s ∧ Wrd.has [b0, b1, b2, b3, b4] s = Wrd.has ([b0, b1, b2, b3, b4].drop 2) s by rw [he.1, he.2]; exact ⟨tagF_no hx, has_next hx⟩)
        have hb := beq_no hx
        clear hx he
        go_wp2
        go_roundw
        case rel => exact ⟨2, by omega, rfl, (hkp.alloc _), HE.out⟩
        case measure => simp [intOf]
    · have hi := bidx_2 b0 b1 b2 b3 b4 wr
      by_cases hx : b2 = s
      · have HE := Lib.hid (show Wrd.tagF [b0, b1, b2, b3, b4] 1 s = 3 ∧ Wrd.has [b0, b1, b2, b3, b4] s = true by rw [he.1, he.2]; exact ⟨tagF_yes hx, has_yes hx⟩)
        have hb : (b2.toList == s.toList) = true := by rw [hx]; exact beq_self_eq_true _
        clear hx he
        go_wp2
        go_ret2
        exact ⟨by rw [HE.out.1, HE.out.2]; rfl, (hkp.alloc _)⟩
      · have HE := Lib.hid (show Wrd.tagF [b0, b1, b2, b3, b4] 1 s = Wrd.tagF ([b0, b1, b2, b3, b4].drop 3) (3 + 1) s ∧ Wrd.has [b0, b1, b2, b3, b4] s = Wrd.has ([b0, b1, b2, b3, b4].drop 3) s by rw [he.1, he.2]; exact ⟨tagF_no hx, has_next hx⟩)
        have hb := beq_no hx
        clear hx he
        go_wp2
        go_roundw
        case rel => exact ⟨3, by omega, rfl, (hkp.alloc _), HE.out⟩
        case measure => simp [intOf]
    · have hi := bidx_3 b0 b1 b2 b3 b4 wr
      by_cases hx : b3 = s
      · have HE := Lib.hid (show Wrd.tagF [b0, b1, b2, b3, b4] 1 s = 4 ∧ Wrd.has [b0, b1, b2, b3, b4] s = true by rw [he.1, he.2]; exact ⟨tagF_yes hx, has_yes hx⟩)
        have hb : (b3.toList == s.toList) = true := by rw [hx]; exact beq_self_eq_true _
        clear hx he
        go_wp2
        go_ret2
        exact ⟨by rw [HE.out.1, HE.out.2]; rfl, (hkp.alloc _)⟩
      · have HE := Lib.hid (show Wrd.tagF [b0, b1, b2, b3, b4] 1 s = Wrd.tagF ([b0, b1, b2, b3, b4].drop 4) (4 + 1) s ∧ Wrd.has [b0, b1, b2, b3, b4] s = Wrd.has ([b0, b1, b2, b3, b4].drop 4) s by rw [he.1, he.2]; exact ⟨tagF_no hx, has_next hx⟩)
        have hb := beq_no hx
        clear hx he
        go_wp2
        go_roundw
        case rel => exact ⟨4, by omega, rfl, (hkp.alloc _), HE.out⟩
        case measure => simp [intOf]
    · have hi := bidx_4 b0 b1 b2 b3 b4 wr
      by_cases hx : b4 = s
      · have HE := Lib.hid (show Wrd.tagF [b0, b1, b2, b3, b4] 1 s = 5 ∧ Wrd.has [b0, b1, b2, b3, b4] s = true by rw [he.1, he.2]; exact ⟨tagF_yes hx, has_yes hx⟩)
        have hb : (b4.toList == s.toList) = true := by rw [hx]; exact beq_self_eq_true _
        clear hx he
        go_wp2
        go_ret2
        exact ⟨by rw [HE.out.1, HE.out.2]; rfl, (hkp.alloc _)⟩
      · have HE := Lib.hid (show Wrd.tagF [b0, b1, b2, b3, b4] 1 s = Wrd.tagF ([b0, b1, b2, b3, b4].drop 5) (5 + 1) s ∧ Wrd.has [b0, b1, b2, b3, b4] s = Wrd.has ([b0, b1, b2, b3, b4].drop 5) s by rw [he.1, he.2]; exact ⟨tagF_no hx, has_next hx⟩)
        have hb := beq_no hx
        clear hx he
        go_wp2
        go_roundw
        case rel => exact ⟨5, by omega, rfl, (hkp.alloc _), HE.out⟩
        case measure => simp [intOf]
    · have HE := Lib.hid (show Wrd.tagF [b0, b1, b2, b3, b4] 1 s = 0 ∧ Wrd.has [b0, b1, b2, b3, b4] s = false by rw [he.1, he.2]; exact ⟨rfl, rfl⟩)
      clear he
      go_wp2
      go_ret2
      exact ⟨by rw [HE.out.1, HE.out.2]; rfl, hkp⟩

theorem tag_c (s : ByteArray) (w : World) (hT : Tb w) :
    Calls Tryz.prog 125 #[.string s] w fun e w' => e = .returned (.tuple #[.int .i64 (Wrd.tag s), .int .i64 (Wrd.tagE s)]) ∧ Kept w w' := by
  obtain ⟨⟨t, fr, h⟩, _⟩ := hT
  exact tag_g _ _ _ _ _ s w t fr h

/-- What OfTag answers. -/
def OfPost (bl : List ByteArray) (n : Int) (w : World) (e : Ending) (w' : World) : Prop :=
  e = .returned (.tuple #[.string (Wrd.ofF bl 1 n).1, .int .i64 (Wrd.ofF bl 1 n).2]) ∧ Kept w w'


theorem two_le {n a b : Nat} {v : Bool} (h : (decide (a ≤ n) && decide (n ≤ b)) = v) : (v = true ∧ (a : Int) ≤ n ∧ (n : Int) ≤ b) ∨ (v = false ∧ (n : Int) < a) ∨ (v = false ∧ (a : Int) ≤ n ∧ (b : Int) < n) := by
  subst h
  by_cases h1 : a ≤ n
  · by_cases h2 : n ≤ b
    · left; simp [h1, h2]
    · right; right; simp [h1, h2]; omega
  · right; left; simp [h1]; omega

theorem small_v (n : Nat) (v : Bool) (w : World) (h : Wrd.smB n = v) : Calls Tryz.prog 152 #[.int .u8 n] w fun e w' => e = .returned (.bool v) ∧ w = w' := by
  rcases two_le h with ⟨rfl, h1, h2⟩ | ⟨rfl, h1⟩ | ⟨rfl, h1, h2⟩
  all_goals
    clear h
    try have h3 : decide ((n : Int) ≤ 122) = true := decide_eq_true (by omega)
    try have h3 : decide ((n : Int) ≤ 122) = false := decide_eq_false (by omega)
    go_enter Tryz.func152, Tryz.ntmps152
    go_wp2
    go_ret
    exact ⟨rfl, rfl⟩

theorem capital_v (n : Nat) (v : Bool) (w : World) (h : Wrd.caB n = v) : Calls Tryz.prog 153 #[.int .u8 n] w fun e w' => e = .returned (.bool v) ∧ w = w' := by
  rcases two_le h with ⟨rfl, h1, h2⟩ | ⟨rfl, h1⟩ | ⟨rfl, h1, h2⟩
  all_goals
    clear h
    try have h3 : decide ((n : Int) ≤ 90) = true := decide_eq_true (by omega)
    try have h3 : decide ((n : Int) ≤ 90) = false := decide_eq_false (by omega)
    go_enter Tryz.func153, Tryz.ntmps153
    go_wp2
    go_ret
    exact ⟨rfl, rfl⟩

theorem digit_v (n : Nat) (v : Bool) (w : World) (h : Wrd.diB n = v) : Calls Tryz.prog 154 #[.int .u8 n] w fun e w' => e = .returned (.bool v) ∧ w = w' := by
  rcases two_le h with ⟨rfl, h1, h2⟩ | ⟨rfl, h1⟩ | ⟨rfl, h1, h2⟩
  all_goals
    clear h
    try have h3 : decide ((n : Int) ≤ 57) = true := decide_eq_true (by omega)
    try have h3 : decide ((n : Int) ≤ 57) = false := decide_eq_false (by omega)
    go_enter Tryz.func154, Tryz.ntmps154
    go_wp2
    go_ret
    exact ⟨rfl, rfl⟩

abbrev chk3 : Value := .agg #[.func (.func 152) #[] #[], .func (.func 153) #[] #[], .func (.func 154) #[] #[]]

theorem checks_c (w : World) : Calls Tryz.prog 140 #[] w fun e w' => e = .returned chk3 ∧ Kept w w' := by
  have hk := Lib.hid (((Kept.refl w).alloc))
  go_enter Tryz.func140, Tryz.ntmps140
  go_wp2
  exact bodyPost_ret (v := chk3) (by simp [results, Tryz.results140, go_sem]) rfl ⟨rfl, hk.out _⟩

theorem ix_0 (W : World) : (Instr.index 177 chk3 (.int .i64 0)).run Tryz.prog W = .ok (.func (.func 152) #[] #[]) W := rfl

theorem ix_1 (W : World) : (Instr.index 177 chk3 (.int .i64 1)).run Tryz.prog W = .ok (.func (.func 153) #[] #[]) W := rfl

theorem ix_2 (W : World) : (Instr.index 177 chk3 (.int .i64 2)).run Tryz.prog W = .ok (.func (.func 154) #[] #[]) W := rfl

def kd3 (a b c : Bool) : Int := if a then 0 else if b then 1 else if c then 2 else 3

/-- The first k checks have answered no. -/
def KdR (a b c : Bool) (k : Nat) : Prop := (0 < k → a = false) ∧ (1 < k → b = false) ∧ (2 < k → c = false)
theorem KdR.one {a b c : Bool} (h : KdR a b c 0) (e : a = false) : KdR a b c 1 := ⟨fun _ => e, by omega, by omega⟩
theorem KdR.two {a b c : Bool} (h : KdR a b c 1) (e : b = false) : KdR a b c 2 := ⟨fun _ => h.1 (by omega), fun _ => e, by omega⟩
theorem KdR.three {a b c : Bool} (h : KdR a b c 2) (e : c = false) : KdR a b c 3 := ⟨fun _ => h.1 (by omega), fun _ => h.2.1 (by omega), fun _ => e⟩
theorem KdR.at0 {a b c : Bool} (h : KdR a b c 0) (e : a = true) : kd3 a b c = 0 := by rw [e]; rfl
theorem KdR.at1 {a b c : Bool} (h : KdR a b c 1) (e : b = true) : kd3 a b c = 1 := by rw [h.1 (by omega), e]; rfl
theorem KdR.at2 {a b c : Bool} (h : KdR a b c 2) (e : c = true) : kd3 a b c = 2 := by rw [h.1 (by omega), h.2.1 (by omega), e]; rfl
theorem KdR.at3 {a b c : Bool} (h : KdR a b c 3) : kd3 a b c = 3 := by rw [h.1 (by omega), h.2.1 (by omega), h.2.2 (by omega)]; rfl

set_option maxHeartbeats 2000000 in
theorem kind_g (n : Nat) (a b c : Bool) (w : World) (ha : Wrd.smB n = a) (hb : Wrd.caB n = b) (hc : Wrd.diB n = c) :
    Calls Tryz.prog 127 #[.int .u8 n] w fun e w' => e = .returned (.int .i64 (kd3 a b c)) ∧ Kept w w' := by
  have H1 := Lib.hid (fun w => small_v n a w ha)
  have H2 := Lib.hid (fun w => capital_v n b w hb)
  have H3 := Lib.hid (fun w => digit_v n c w hc)
  clear ha hb hc
  go_enter Tryz.func127, Tryz.ntmps127
  go_wp2_with fail
  refine (checks_c _).mono ?_
  rintro e w1 ⟨rfl, k1⟩
  go_wp2_with fail
  go_loopw [6] (fun i wr => ∃ k : Nat, k ≤ 3 ∧ i = .int .i64 k ∧ Kept w wr ∧ Hid (KdR a b c k))
    (fun i wr => 3 - (intOf i).toNat)
  case atStart => exact ⟨0, by omega, rfl, k1, Lib.hid ⟨by omega, by omega, by omega⟩⟩
  case round =>
    obtain ⟨k, hk, rfl, hkp, he⟩ := hrel
    have hk' : k = 0 ∨ k = 1 ∨ k = 2 ∨ k = 3 := by omega
    rcases hk' with rfl | rfl | rfl | rfl
    · have hi := ix_0 wr
      cases ha : a
      · have HR := Lib.hid (show KdR a b c 1 from he.out.one ha)
        go_wp2_with fail
        refine (H1.out _).mono ?_
        rintro e w2 ⟨rfl, rfl⟩
        go_wp2_with fail
        go_roundw
        case rel => exact ⟨1, by omega, rfl, hkp, by rw [ha] at HR; exact HR⟩
        case measure => simp [intOf]
      · have HE := Lib.hid (show kd3 a b c = 0 from he.out.at0 ha)
        go_wp2_with fail
        refine (H1.out _).mono ?_
        rintro e w2 ⟨rfl, rfl⟩
        go_wp2_with fail
        go_ret
        exact ⟨by rw [HE.out]; rfl, hkp⟩
    · have hi := ix_1 wr
      cases hb : b
      · have HR := Lib.hid (show KdR a b c 2 from he.out.two hb)
        go_wp2_with fail
        refine (H2.out _).mono ?_
        rintro e w2 ⟨rfl, rfl⟩
        go_wp2_with fail
        go_roundw
        case rel => exact ⟨2, by omega, rfl, hkp, by rw [hb] at HR; exact HR⟩
        case measure => simp [intOf]
      · have HE := Lib.hid (show kd3 a b c = 1 from he.out.at1 hb)
        go_wp2_with fail
        refine (H2.out _).mono ?_
        rintro e w2 ⟨rfl, rfl⟩
        go_wp2_with fail
        go_ret
        exact ⟨by rw [HE.out]; rfl, hkp⟩
    · have hi := ix_2 wr
      cases hc : c
      · have HR := Lib.hid (show KdR a b c 3 from he.out.three hc)
        go_wp2_with fail
        refine (H3.out _).mono ?_
        rintro e w2 ⟨rfl, rfl⟩
        go_wp2_with fail
        go_roundw
        case rel => exact ⟨3, by omega, rfl, hkp, by rw [hc] at HR; exact HR⟩
        case measure => simp [intOf]
      · have HE := Lib.hid (show kd3 a b c = 2 from he.out.at2 hc)
        go_wp2_with fail
        refine (H3.out _).mono ?_
        rintro e w2 ⟨rfl, rfl⟩
        go_wp2_with fail
        go_ret
        exact ⟨by rw [HE.out]; rfl, hkp⟩
    · have HE := Lib.hid (show kd3 a b c = 3 from he.out.at3)
      go_wp2_with fail
      go_ret
      exact ⟨by rw [HE.out]; rfl, hkp⟩

theorem kind_c (c : UInt8) (w : World) : Calls Tryz.prog 127 #[.int .u8 c.toNat] w fun e w' => e = .returned (.int .i64 (Wrd.kd c)) ∧ Kept w w' :=
  (kind_g c.toNat _ _ _ w rfl rfl rfl).mono fun _ _ ⟨h, k⟩ => ⟨by rw [h]; unfold Wrd.kd kd3; cases Wrd.smB c.toNat <;> cases Wrd.caB c.toNat <;> cases Wrd.diB c.toNat <;> rfl, k⟩


/-- The first k letters are letters, the first of them of kind f. -/
def SpR (s : ByteArray) (f k : Nat) : Prop := (∀ j (hj : j < s.size), j < k → Wrd.kd s[j] ≠ 3) ∧ (∀ h : 0 < s.size, 0 < k → Wrd.kd s[0] = f)
theorem SpR.zero (s : ByteArray) (f : Nat) : SpR s f 0 := ⟨by omega, by omega⟩
theorem SpR.next {s : ByteArray} {f k : Nat} (h : SpR s f k) (hk : k < s.size) (h3 : Wrd.kd s[k] ≠ 3) (h0 : k = 0 → Wrd.kd s[k] = f) : SpR s f (k + 1) := by
  refine ⟨fun j hj hjk => ?_, fun h' _ => ?_⟩
  · by_cases e : j = k
    · subst e; exact h3
    · exact h.1 j hj (by omega)
  · by_cases e : k = 0
    · subst e; exact h0 rfl
    · exact h.2 h' (by omega)
theorem SpR.all {s : ByteArray} {f : Nat} (h : SpR s f s.size) (h1 : 0 < s.size) (h2 : s.size ≤ 20) : Wrd.spelt s f = true :=
  Wrd.spelt_all h1 h2 (fun k hk => h.1 k hk hk) (h.2 h1 h1)

set_option maxHeartbeats 2000000 in
theorem spelt_c (s : ByteArray) (f : Nat) (w : World) (hs : s.size ≤ 9223372036854775807) (hf : f ≤ 2) :
    Calls Tryz.prog 117 #[.string s, .int .i64 f] w fun e w' => e = .returned (.bool (Wrd.spelt s f)) ∧ Kept w w' := by
  by_cases h1 : s.size < 1
  · have HE := Lib.hid (Wrd.spelt_len (s := s) (f := f) (.inl h1))
    have hz : (s.size : Int) < 1 := by omega
    go_enter Tryz.func117, Tryz.ntmps117
    go_wp2
    go_ret
    exact ⟨by rw [HE.out]; rfl, Kept.refl _⟩
  by_cases h2 : 20 < s.size
  · have HE := Lib.hid (Wrd.spelt_len (s := s) (f := f) (.inr h2))
    have hz : 1 ≤ (s.size : Int) := by omega
    have hy : decide ((20 : Int) < (s.size : Int)) = true := decide_eq_true (by omega)
    clear h1 h2
    go_enter Tryz.func117, Tryz.ntmps117
    go_wp2
    go_ret
    exact ⟨by rw [HE.out]; rfl, Kept.refl _⟩
  have hz : 1 ≤ (s.size : Int) := by omega
  have hy : decide ((20 : Int) < (s.size : Int)) = false := decide_eq_false (by omega)
  have hsz : s.size ≤ 20 := by omega
  clear h1 h2
  go_enter Tryz.func117, Tryz.ntmps117
  go_wp2
  go_loopw [17] (fun i wr => ∃ k : Nat, k ≤ s.size ∧ i = .int .i64 k ∧ Kept w wr ∧ Hid (SpR s f k))
    (fun i wr => s.size - (intOf i).toNat)
  case atStart => exact ⟨0, by omega, rfl, Kept.refl _, Lib.hid (SpR.zero s f)⟩
  case round =>
    obtain ⟨k, hk, rfl, hkp, he⟩ := hrel
    by_cases hlt : k < s.size
    · have H := Lib.hid (fun w => kind_c s[k] w)
      by_cases h3 : Wrd.kd s[k] = 3
      · have HE := Lib.hid (Wrd.spelt_at (f := f) hlt h3)
        rw [h3] at H
        clear h3
        go_wp2_with fail
        refine (H.out _).mono ?_
        rintro e w2 ⟨rfl, k2⟩
        go_wp2_with fail
        go_ret
        exact ⟨by rw [HE.out]; rfl, hkp.trans k2⟩
      · have hd3 : (((Wrd.kd s[k] : Nat) : Int) == 3) = false := by simp; omega
        by_cases hk0 : k = 0
        · subst hk0
          by_cases hf0 : Wrd.kd s[0] = f
          · have HN := Lib.hid (he.out.next hlt h3 (fun _ => hf0))
            have hne : (((Wrd.kd s[0] : Nat) : Int) != (f : Int)) = false := by rw [hf0]; simp
            clear h3 hf0
            generalize Wrd.kd s[0] = d at *
            go_wp2_with fail
            refine (H.out _).mono ?_
            rintro e w2 ⟨rfl, k2⟩
            go_wp2_with fail
            go_roundw
            case rel => exact ⟨1, by omega, rfl, hkp.trans k2, HN⟩
            case measure => simp [intOf]; omega
          · have HE := Lib.hid (Wrd.spelt_first (by omega) hf0)
            have hne : (((Wrd.kd s[0] : Nat) : Int) != (f : Int)) = true := by simp; omega
            clear h3 hf0
            generalize Wrd.kd s[0] = d at *
            go_wp2_with fail
            refine (H.out _).mono ?_
            rintro e w2 ⟨rfl, k2⟩
            go_wp2_with fail
            go_ret
            exact ⟨by rw [HE.out]; rfl, hkp.trans k2⟩
        · have HN := Lib.hid (he.out.next hlt h3 (fun h => absurd h hk0))
          have hke : (((k : Nat) : Int) == 0) = false := by simp; omega
          clear h3 hk0
          generalize Wrd.kd s[k] = d at *
          go_wp2_with fail
          refine (H.out _).mono ?_
          rintro e w2 ⟨rfl, k2⟩
          go_wp2_with fail
          go_roundw
          case rel => exact ⟨k + 1, by omega, by go_num, hkp.trans k2, HN⟩
          case measure => simp [intOf]; omega
    · obtain rfl : k = s.size := by omega
      have HE := Lib.hid (he.out.all (by omega) hsz)
      go_wp2
      go_ret
      exact ⟨by rw [HE.out]; rfl, hkp⟩


/-- A text compared with a literal, as the walk spells it. -/
theorem lit_yes {s : ByteArray} {l : List UInt8} (h : s = ⟨l.toArray⟩) : (s.toList == l) = true := by
  rw [h, ByteArray.toList_eq]; simp
theorem lit_no {s : ByteArray} {l : List UInt8} (h : ¬ s = ⟨l.toArray⟩) : (s.toList == l) = false := by
  cases e : s.toList == l with
  | false => rfl
  | true =>
    have e' := eq_of_beq e
    rw [ByteArray.toList_eq] at e'
    exact absurd (ByteArray.ext (by rw [← e'])) h

theorem spelt0_c (s : ByteArray) (w : World) (hs : s.size ≤ 9223372036854775807) :
    Calls Tryz.prog 117 #[.string s, .int .i64 0] w fun e w' => e = .returned (.bool (Wrd.spelt s 0)) ∧ Kept w w' := spelt_c s 0 w hs (by omega)
theorem spelt1_c (s : ByteArray) (w : World) (hs : s.size ≤ 9223372036854775807) :
    Calls Tryz.prog 117 #[.string s, .int .i64 1] w fun e w' => e = .returned (.bool (Wrd.spelt s 1)) ∧ Kept w w' := spelt_c s 1 w hs (by omega)

theorem name_c (s : ByteArray) (w : World) (hT : Tb w) (hs : s.size ≤ 9223372036854775807) :
    Calls Tryz.prog 106 #[.string s] w fun e w' => e = .returned (.bool (Wrd.name s)) ∧ Kept w w' := by
  unfold Wrd.name
  have H1 := Lib.hid (fun w => spelt0_c s w hs)
  have H2 := Lib.hid (fun w hT => key_c s w hT)
  have HT := Lib.hid hT
  clear hT hs
  generalize Wrd.spelt s 0 = a at *
  generalize Wrd.key s = b at *
  cases a
  · go_enter Tryz.func106, Tryz.ntmps106
    go_wp2_with fail
    refine (H1.out _).mono ?_
    rintro e w1 ⟨rfl, k1⟩
    go_wp2_with fail
    go_ret
    exact ⟨rfl, k1⟩
  · go_enter Tryz.func106, Tryz.ntmps106
    go_wp2_with fail
    refine (H1.out _).mono ?_
    rintro e w1 ⟨rfl, k1⟩
    go_wp2_with fail
    refine (H2.out _ (HT.out.kept k1)).mono ?_
    rintro e w2 ⟨rfl, k2⟩
    go_wp2_with fail
    go_ret
    exact ⟨by cases b <;> rfl, k1.trans k2⟩

theorem class_c (s : ByteArray) (w : World) (hs : s.size ≤ 9223372036854775807) :
    Calls Tryz.prog 114 #[.string s] w fun e w' => e = .returned (.bool (Wrd.cls s)) ∧ Kept w w' := by
  have H1 := Lib.hid (fun w => spelt1_c s w hs)
  unfold Wrd.cls
  generalize Wrd.spelt s 1 = a at *
  go_enter Tryz.func114, Tryz.ntmps114
  go_wp2_with fail
  refine (H1.out _).mono ?_
  rintro e w1 ⟨rfl, k1⟩
  go_wp2_with fail
  go_ret
  exact ⟨rfl, k1⟩

theorem base_c (s : ByteArray) (w : World) (hT : Tb w) :
    Calls Tryz.prog 115 #[.string s] w fun e w' => e = .returned (.bool (Wrd.base s)) ∧ Kept w w' := by
  have H1 := Lib.hid (tag_c s w hT)
  unfold Wrd.tagE at H1
  generalize Wrd.base s = a at *
  generalize Wrd.tag s = n at *
  cases a
  · go_enter Tryz.func115, Tryz.ntmps115
    go_wp2_with fail
    refine (H1.out).mono ?_
    rintro e w1 ⟨rfl, k1⟩
    go_wp2_with fail
    go_ret
    exact ⟨rfl, k1⟩
  · go_enter Tryz.func115, Tryz.ntmps115
    go_wp2_with fail
    refine (H1.out).mono ?_
    rintro e w1 ⟨rfl, k1⟩
    go_wp2_with fail
    go_ret
    exact ⟨rfl, k1⟩

theorem kindw_c (s : ByteArray) (w : World) (hT : Tb w) (hs : s.size ≤ 9223372036854775807) :
    Calls Tryz.prog 94 #[.string s] w fun e w' => e = .returned (.int .i64 (Wrd.kind s)) ∧ Kept w w' := by
  have H1 := Lib.hid (base_c s w hT)
  have H2 := Lib.hid (fun w => class_c s w hs)
  unfold Wrd.kind
  generalize Wrd.base s = a at *
  generalize Wrd.cls s = c at *
  clear hT hs
  cases a
  · by_cases hq : s = ⟨#[63]⟩
    · have hb : (s.toList == [63]) = true := lit_yes hq
      rw [if_pos hq]
      clear hq
      go_enter Tryz.func94, Tryz.ntmps94
      go_wp2_with fail
      refine (H1.out).mono ?_
      rintro e w1 ⟨rfl, k1⟩
      go_wp2_with fail
      go_ret
      exact ⟨rfl, k1⟩
    · have hb : (s.toList == [63]) = false := lit_no hq
      rw [if_neg hq]
      clear hq
      cases c
      all_goals
        go_enter Tryz.func94, Tryz.ntmps94
        go_wp2_with fail
        refine (H1.out).mono ?_
        rintro e w1 ⟨rfl, k1⟩
        go_wp2_with fail
        refine (H2.out _).mono ?_
        rintro e w2 ⟨rfl, k2⟩
        go_wp2_with fail
        go_ret
        exact ⟨rfl, k1.trans k2⟩
  · go_enter Tryz.func94, Tryz.ntmps94
    go_wp2_with fail
    refine (H1.out).mono ?_
    rintro e w1 ⟨rfl, k1⟩
    go_wp2_with fail
    go_ret
    exact ⟨rfl, k1⟩

theorem type_c (s : ByteArray) (w : World) (hT : Tb w) (hs : s.size ≤ 9223372036854775807) :
    Calls Tryz.prog 55 #[.string s] w fun e w' => e = .returned (.bool (Wrd.typ s)) ∧ Kept w w' := by
  have H1 := Lib.hid (kindw_c s w hT hs)
  unfold Wrd.typ
  generalize Wrd.kind s = n at *
  go_enter Tryz.func55, Tryz.ntmps55
  go_wp2_with fail
  refine (H1.out).mono ?_
  rintro e w1 ⟨rfl, k1⟩
  go_wp2_with fail
  go_ret
  exact ⟨by simp; rfl, k1⟩

end Go.Proofs.YtfkmnpgpfmkjaaaGreatDoor
