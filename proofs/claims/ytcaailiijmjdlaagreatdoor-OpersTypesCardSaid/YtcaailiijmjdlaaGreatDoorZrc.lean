/- The document's Un and Conv. -/
import Derived.Test.YtcaailiijmjdlaaGreatDoorZra
import Derived.Test.YtcaailiijmjdlaaGreatDoorZtq
set_option linter.unusedSimpArgs false
set_option linter.unusedVariables false
set_option maxRecDepth 100000
namespace Go.Proofs.YtcaailiijmjdlaaGreatDoor
open Go.ChangeShapes Go.WideShapes Go.ChangeAt Go.RowKit
attribute [local go_sem] Oper.semAt_some
open Zp (e0 dy R bad tI tR tB tS oSub oNot cLen runV rconv)

theorem lits2 {w : World} {l : List ByteArray} {W : World} (h : w.alloc (.cells (l.map Value.string).toArray 9) = W) (hm : l.length ≤ 100) : TxR W (.slice (some ⟨w.heap.size, 0, none⟩) l.length l.length) l ∧ Kept w W := by
  rw [← h]
  exact ⟨TxR.lit (t := 9) l (Blk.new _ _ _) hm, (Kept.refl _).alloc _⟩
theorem keep3 {w W : World} {g : Nat} {t : TypeId} {a b c x y z : Value} (h : Blk W g t #[a, b, c]) (hk : Kept w W) (hg : w.heap.size ≤ g) {V : World} (e : put3 W g x y z = V) : Blk V g t #[x, y, z] ∧ Kept w V := by
  rw [← e]
  exact ⟨put3_blk h _ _ _, hk.only (put3_only W g x y z) rfl (fun k e => by omega)⟩

set_option maxHeartbeats 4000000 in
theorem rrun_c (op s : ByteArray) (w : World) : Calls Tryz.prog 12 #[.string op, .string s] w fun e w' => e = .returned (runV op s).val ∧ Kept w w' := by
  obtain ⟨W0, hW0⟩ : ∃ W, w.alloc (.cells opZ opT) = W := ⟨_, rfl⟩
  have k0 : Kept w W0 := by rw [← hW0]; exact (Kept.refl _).alloc _
  have b0 : Blk W0 w.heap.size opT opZ := by rw [← hW0]; exact Blk.new _ _ _
  have HW0 := Lib.hid hW0
  have HK0 := Lib.hid k0
  have HB0 := Lib.hid b0
  clear hW0 k0 b0
  by_cases h1 : op = oSub
  · subst h1
    obtain ⟨W1, hW1⟩ : ∃ W, W0.alloc (.cells #[.string tI, .string tR] 9) = W := ⟨_, rfl⟩
    obtain ⟨t1, k1⟩ := lits2 (l := [tI, tR]) hW1 (by decide)
    have HA := Lib.hid (ramong_c s _ _ _ [tI, tR] W1 t1)
    have HK1 := Lib.hid (HK0.out.trans k1)
    have HB1 := Lib.hid (HB0.out.kept k1)
    have HW1 := Lib.hid hW1
    clear hW1 t1 k1
    go_enter Tryz.func12, Tryz.ntmps12
    go_wp2_with (first | rw [HW0.out] | rw [HW1.out])
    refine HA.out.mono ?_
    rintro e w1 ⟨rfl, rfl⟩
    clear HA
    cases hin : Wrd.has [tI, tR] s with
    | true =>
      have HE := Lib.hid (show runV oSub s = ⟨s, s, false, 0⟩ from by unfold runV; rw [if_pos rfl, if_pos (show Zp.has [tI, tR] s = true from hin)])
      obtain ⟨z0, z1, z2, g0, g1, g2⟩ := blk3 HB1.out
      go_wp2_with fail
      rw [HE.out]
      exact op_end (r := ⟨s, s, false, 0⟩) (by rfl) rfl rfl rfl HB1.out HK1.out
    | false =>
      have bs := dyB s
      cases hd : decide (s = dy) with
      | true =>
        rw [hd] at bs
        have HE := Lib.hid (show runV oSub s = ⟨tI, tI, false, 0⟩ from by unfold runV; rw [if_pos rfl, if_neg (by rw [show Zp.has [tI, tR] s = false from hin]; decide), if_pos (of_decide_eq_true hd)])
        obtain ⟨z0, z1, z2, g0, g1, g2⟩ := blk3 HB1.out
        go_wp2_with fail
        rw [HE.out]
        exact op_end (r := ⟨tI, tI, false, 0⟩) (by rfl) rfl rfl rfl HB1.out HK1.out
      | false =>
        rw [hd] at bs
        have HE := Lib.hid (show runV oSub s = bad 7 from by unfold runV; rw [if_pos rfl, if_neg (by rw [show Zp.has [tI, tR] s = false from hin]; decide), if_neg (of_decide_eq_false hd)])
        obtain ⟨z0, z1, z2, g0, g1, g2⟩ := blk3 HB1.out
        go_wp2_with fail
        rw [HE.out]
        exact op_end (r := bad 7) (by rfl) rfl rfl rfl HB1.out HK1.out
  by_cases h2 : op = oNot
  · subst h2
    clear h1
    obtain ⟨W1, hW1⟩ : ∃ W, W0.alloc (.cells #[.string tB, .string dy] 9) = W := ⟨_, rfl⟩
    obtain ⟨t1, k1⟩ := lits2 (l := [tB, dy]) hW1 (by decide)
    have HA := Lib.hid (ramong_c s _ _ _ [tB, dy] W1 t1)
    have HK1 := Lib.hid (HK0.out.trans k1)
    have HB1 := Lib.hid (HB0.out.kept k1)
    have HW1 := Lib.hid hW1
    clear hW1 t1 k1
    go_enter Tryz.func12, Tryz.ntmps12
    go_wp2_with (first | rw [HW0.out] | rw [HW1.out])
    refine HA.out.mono ?_
    rintro e w1 ⟨rfl, rfl⟩
    clear HA
    cases hin : Wrd.has [tB, dy] s with
    | true =>
      have HE := Lib.hid (show runV oNot s = ⟨tB, tB, false, 0⟩ from by unfold runV; rw [if_neg (by decide), if_pos rfl, if_pos (show Zp.has [tB, dy] s = true from hin)])
      obtain ⟨z0, z1, z2, g0, g1, g2⟩ := blk3 HB1.out
      go_wp2_with fail
      rw [HE.out]
      exact op_end (r := ⟨tB, tB, false, 0⟩) (by rfl) rfl rfl rfl HB1.out HK1.out
    | false =>
      have HE := Lib.hid (show runV oNot s = bad 7 from by unfold runV; rw [if_neg (by decide), if_pos rfl, if_neg (by rw [show Zp.has [tB, dy] s = false from hin]; decide)])
      obtain ⟨z0, z1, z2, g0, g1, g2⟩ := blk3 HB1.out
      go_wp2_with fail
      rw [HE.out]
      exact op_end (r := bad 7) (by rfl) rfl rfl rfl HB1.out HK1.out
  have b1 : (op.toList == [45]) = false := (teqL op #[45]).trans (decide_eq_false h1)
  have b2 : (op.toList == [33]) = false := (teqL op #[33]).trans (decide_eq_false h2)
  have HE := Lib.hid (show runV op s = bad 2 by unfold runV; rw [if_neg h1, if_neg h2])
  clear h1 h2
  obtain ⟨z0, z1, z2, g0, g1, g2⟩ := blk3 HB0.out
  go_enter Tryz.func12, Tryz.ntmps12
  go_wp2_with (first | rw [HW0.out])
  rw [HE.out]
  exact op_end (r := bad 2) (by rfl) rfl rfl rfl HB0.out HK0.out

set_option maxHeartbeats 4000000 in
theorem rcnv_c (op s : ByteArray) (w : World) : Calls Tryz.prog 14 #[.string op, .string s] w fun e w' => e = .returned (rconv op s).val ∧ Kept w w' := by
  obtain ⟨W0, hW0⟩ : ∃ W, w.alloc (.cells opZ opT) = W := ⟨_, rfl⟩
  have k0 : Kept w W0 := by rw [← hW0]; exact (Kept.refl _).alloc _
  have b0 : Blk W0 w.heap.size opT opZ := by rw [← hW0]; exact Blk.new _ _ _
  have HW0 := Lib.hid hW0
  have HK0 := Lib.hid k0
  have HB0 := Lib.hid b0
  clear hW0 k0 b0
  obtain ⟨W6, hW6⟩ : ∃ W, W0.alloc (.cells opZ opT) = W := ⟨_, rfl⟩
  have k6 : Kept W0 W6 := by rw [← hW6]; exact (Kept.refl _).alloc _
  have b6 : Blk W6 W0.heap.size opT opZ := by rw [← hW6]; exact Blk.new _ _ _
  obtain ⟨W7, hW7⟩ : ∃ W, put3 W6 W0.heap.size (.string ⟨#[]⟩) (.string ⟨#[]⟩) (.bool false) = W := ⟨_, rfl⟩
  obtain ⟨b7, k7⟩ := keep3 b6 k6 (Nat.le_refl _) hW7
  obtain ⟨r0, r1, r2, r3, r4, r5⟩ := blk3 b6
  obtain ⟨p0, p1, p2, q0, q1, q2⟩ := blk3 b7
  have HB7 := Lib.hid b7
  have HK7 := Lib.hid (HK0.out.trans k7)
  have HR7 := Lib.hid (HB0.out.kept k7)
  have HN := Lib.hid (show w.heap.size < W0.heap.size from HB0.out.lt)
  have HW6 := Lib.hid hW6
  have HW7 := Lib.hid (show ((W6.setCell ⟨W0.heap.size, 0, none⟩ (.string ⟨#[]⟩)).setCell ⟨W0.heap.size, 1, none⟩ (.string ⟨#[]⟩)).setCell ⟨W0.heap.size, 2, none⟩ (.bool false) = W7 from hW7)
  clear hW6 hW7 k6 b6 k7 b7
  by_cases h0 : op = tR
  · subst h0
    obtain ⟨W8, hW8⟩ : ∃ W, put3 W7 W0.heap.size (.string tI) (.string tR) (.bool false) = W := ⟨_, rfl⟩
    obtain ⟨b8, k8⟩ := keep3 HB7.out HK7.out (Nat.le_of_lt HN.out) hW8
    have HR8 := Lib.hid (show Blk W8 w.heap.size opT opZ by rw [← hW8]; exact HR7.out.only (put3_only _ _ _ _ _) (by have := HN.out; omega))
    have HK8 := Lib.hid k8
    have HW8 := Lib.hid (show ((W7.setCell ⟨W0.heap.size, 0, none⟩ (.string tI)).setCell ⟨W0.heap.size, 1, none⟩ (.string tR)).setCell ⟨W0.heap.size, 2, none⟩ (.bool false) = W8 from hW8)
    obtain ⟨s0, s1, s2, t0, t1, t2⟩ := blk3 b8
    clear hW8 k8 b8
    have c1 : (s.toList == [105, 110, 116]) = decide (s = tI) := teqL s #[105, 110, 116]
    have c2 := dyB s
    cases ha : decide (s = tI) with
    | true =>
      rw [ha] at c1
      have HE := Lib.hid (show rconv tR s = ⟨tI, tR, false, 0⟩ by unfold rconv; rw [if_pos rfl, if_pos (.inl (of_decide_eq_true ha))])
      obtain ⟨z0, z1, z2, g0, g1, g2⟩ := blk3 HR8.out
      go_enter Tryz.func14, Tryz.ntmps14
      go_wp2_with (first | rw [HW0.out] | rw [HW6.out] | rw [HW7.out] | rw [HW8.out])
      rw [HE.out]
      exact op_end (r := ⟨tI, tR, false, 0⟩) (by rfl) rfl rfl rfl HR8.out HK8.out
    | false =>
      rw [ha] at c1
      cases hb : decide (s = dy) with
      | true =>
        rw [hb] at c2
        have HE := Lib.hid (show rconv tR s = ⟨tI, tR, false, 0⟩ by unfold rconv; rw [if_pos rfl, if_pos (.inr (of_decide_eq_true hb))])
        obtain ⟨z0, z1, z2, g0, g1, g2⟩ := blk3 HR8.out
        go_enter Tryz.func14, Tryz.ntmps14
        go_wp2_with (first | rw [HW0.out] | rw [HW6.out] | rw [HW7.out] | rw [HW8.out])
        rw [HE.out]
        exact op_end (r := ⟨tI, tR, false, 0⟩) (by rfl) rfl rfl rfl HR8.out HK8.out
      | false =>
        rw [hb] at c2
        have HE := Lib.hid (show rconv tR s = bad 7 by unfold rconv; rw [if_pos rfl, if_neg (fun e => e.elim (of_decide_eq_false ha) (of_decide_eq_false hb))])
        obtain ⟨z0, z1, z2, g0, g1, g2⟩ := blk3 HR8.out
        go_enter Tryz.func14, Tryz.ntmps14
        go_wp2_with (first | rw [HW0.out] | rw [HW6.out] | rw [HW7.out] | rw [HW8.out])
        rw [HE.out]
        exact op_end (r := bad 7) (by rfl) rfl rfl rfl HR8.out HK8.out
  by_cases h1 : op = tI
  · subst h1
    obtain ⟨W8, hW8⟩ : ∃ W, put3 W7 W0.heap.size (.string tR) (.string tI) (.bool false) = W := ⟨_, rfl⟩
    obtain ⟨b8, k8⟩ := keep3 HB7.out HK7.out (Nat.le_of_lt HN.out) hW8
    have HR8 := Lib.hid (show Blk W8 w.heap.size opT opZ by rw [← hW8]; exact HR7.out.only (put3_only _ _ _ _ _) (by have := HN.out; omega))
    have HK8 := Lib.hid k8
    have HW8 := Lib.hid (show ((W7.setCell ⟨W0.heap.size, 0, none⟩ (.string tR)).setCell ⟨W0.heap.size, 1, none⟩ (.string tI)).setCell ⟨W0.heap.size, 2, none⟩ (.bool false) = W8 from hW8)
    obtain ⟨s0, s1, s2, t0, t1, t2⟩ := blk3 b8
    clear hW8 k8 b8 h0
    have c1 : (s.toList == [114, 101, 97, 108]) = decide (s = tR) := teqL s #[114, 101, 97, 108]
    have c2 := dyB s
    cases ha : decide (s = tR) with
    | true =>
      rw [ha] at c1
      have HE := Lib.hid (show rconv tI s = ⟨tR, tI, false, 0⟩ by unfold rconv; rw [if_neg (by decide), if_pos rfl, if_pos (.inl (of_decide_eq_true ha))])
      obtain ⟨z0, z1, z2, g0, g1, g2⟩ := blk3 HR8.out
      go_enter Tryz.func14, Tryz.ntmps14
      go_wp2_with (first | rw [HW0.out] | rw [HW6.out] | rw [HW7.out] | rw [HW8.out])
      rw [HE.out]
      exact op_end (r := ⟨tR, tI, false, 0⟩) (by rfl) rfl rfl rfl HR8.out HK8.out
    | false =>
      rw [ha] at c1
      cases hb : decide (s = dy) with
      | true =>
        rw [hb] at c2
        have HE := Lib.hid (show rconv tI s = ⟨tR, tI, false, 0⟩ by unfold rconv; rw [if_neg (by decide), if_pos rfl, if_pos (.inr (of_decide_eq_true hb))])
        obtain ⟨z0, z1, z2, g0, g1, g2⟩ := blk3 HR8.out
        go_enter Tryz.func14, Tryz.ntmps14
        go_wp2_with (first | rw [HW0.out] | rw [HW6.out] | rw [HW7.out] | rw [HW8.out])
        rw [HE.out]
        exact op_end (r := ⟨tR, tI, false, 0⟩) (by rfl) rfl rfl rfl HR8.out HK8.out
      | false =>
        rw [hb] at c2
        have HE := Lib.hid (show rconv tI s = bad 7 by unfold rconv; rw [if_neg (by decide), if_pos rfl, if_neg (fun e => e.elim (of_decide_eq_false ha) (of_decide_eq_false hb))])
        obtain ⟨z0, z1, z2, g0, g1, g2⟩ := blk3 HR8.out
        go_enter Tryz.func14, Tryz.ntmps14
        go_wp2_with (first | rw [HW0.out] | rw [HW6.out] | rw [HW7.out] | rw [HW8.out])
        rw [HE.out]
        exact op_end (r := bad 7) (by rfl) rfl rfl rfl HR8.out HK8.out
  by_cases h2 : op = cLen
  · subst h2
    obtain ⟨W8, hW8⟩ : ∃ W, put3 W7 W0.heap.size (.string tS) (.string tI) (.bool false) = W := ⟨_, rfl⟩
    obtain ⟨b8, k8⟩ := keep3 HB7.out HK7.out (Nat.le_of_lt HN.out) hW8
    have HR8 := Lib.hid (show Blk W8 w.heap.size opT opZ by rw [← hW8]; exact HR7.out.only (put3_only _ _ _ _ _) (by have := HN.out; omega))
    have HK8 := Lib.hid k8
    have HW8 := Lib.hid (show ((W7.setCell ⟨W0.heap.size, 0, none⟩ (.string tS)).setCell ⟨W0.heap.size, 1, none⟩ (.string tI)).setCell ⟨W0.heap.size, 2, none⟩ (.bool false) = W8 from hW8)
    obtain ⟨s0, s1, s2, t0, t1, t2⟩ := blk3 b8
    clear hW8 k8 b8 h0 h1
    have c1 : (s.toList == [115, 116, 114]) = decide (s = tS) := teqL s #[115, 116, 114]
    have c2 := dyB s
    cases ha : decide (s = tS) with
    | true =>
      rw [ha] at c1
      have HE := Lib.hid (show rconv cLen s = ⟨tS, tI, false, 0⟩ by unfold rconv; rw [if_neg (by decide), if_neg (by decide), if_pos rfl, if_pos (.inl (of_decide_eq_true ha))])
      obtain ⟨z0, z1, z2, g0, g1, g2⟩ := blk3 HR8.out
      go_enter Tryz.func14, Tryz.ntmps14
      go_wp2_with (first | rw [HW0.out] | rw [HW6.out] | rw [HW7.out] | rw [HW8.out])
      rw [HE.out]
      exact op_end (r := ⟨tS, tI, false, 0⟩) (by rfl) rfl rfl rfl HR8.out HK8.out
    | false =>
      rw [ha] at c1
      cases hb : decide (s = dy) with
      | true =>
        rw [hb] at c2
        have HE := Lib.hid (show rconv cLen s = ⟨tS, tI, false, 0⟩ by unfold rconv; rw [if_neg (by decide), if_neg (by decide), if_pos rfl, if_pos (.inr (of_decide_eq_true hb))])
        obtain ⟨z0, z1, z2, g0, g1, g2⟩ := blk3 HR8.out
        go_enter Tryz.func14, Tryz.ntmps14
        go_wp2_with (first | rw [HW0.out] | rw [HW6.out] | rw [HW7.out] | rw [HW8.out])
        rw [HE.out]
        exact op_end (r := ⟨tS, tI, false, 0⟩) (by rfl) rfl rfl rfl HR8.out HK8.out
      | false =>
        rw [hb] at c2
        have HE := Lib.hid (show rconv cLen s = bad 7 by unfold rconv; rw [if_neg (by decide), if_neg (by decide), if_pos rfl, if_neg (fun e => e.elim (of_decide_eq_false ha) (of_decide_eq_false hb))])
        obtain ⟨z0, z1, z2, g0, g1, g2⟩ := blk3 HR8.out
        go_enter Tryz.func14, Tryz.ntmps14
        go_wp2_with (first | rw [HW0.out] | rw [HW6.out] | rw [HW7.out] | rw [HW8.out])
        rw [HE.out]
        exact op_end (r := bad 7) (by rfl) rfl rfl rfl HR8.out HK8.out
  have c0 : (op.toList == [114, 101, 97, 108]) = false := (teqL op #[114, 101, 97, 108]).trans (decide_eq_false h0)
  have c1 : (op.toList == [105, 110, 116]) = false := (teqL op #[105, 110, 116]).trans (decide_eq_false h1)
  have c2 : (op.toList == [108, 101, 110]) = false := (teqL op #[108, 101, 110]).trans (decide_eq_false h2)
  have HE := Lib.hid (show rconv op s = bad 2 by unfold rconv; rw [if_neg h0, if_neg h1, if_neg h2])
  clear h0 h1 h2
  obtain ⟨z0, z1, z2, g0, g1, g2⟩ := blk3 HR7.out
  go_enter Tryz.func14, Tryz.ntmps14
  go_wp2_with (first | rw [HW0.out] | rw [HW6.out] | rw [HW7.out])
  rw [HE.out]
  exact op_end (r := bad 2) (by rfl) rfl rfl rfl HR7.out HK7.out
end Go.Proofs.YtcaailiijmjdlaaGreatDoor
