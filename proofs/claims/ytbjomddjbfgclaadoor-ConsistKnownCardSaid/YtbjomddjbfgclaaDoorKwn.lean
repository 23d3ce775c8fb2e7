/- The chapter's examples are answered as it says. -/
import Derived.Test.YtbjomddjbfgclaaDoorAwe
import Derived.Test.YtbjomddjbfgclaaDoorMet
import Derived.Test.YtbjomddjbfgclaaDoorMem
import Derived.Test.YtbjomddjbfgclaaDoorAri
set_option linter.unusedSimpArgs false
set_option linter.unusedVariables false
set_option maxRecDepth 100000
namespace Go.Proofs.YtbjomddjbfgclaaDoor
open Go.ChangeShapes Go.WideShapes Go.ChangeAt Go.RowKit

abbrev T0 : List Tab.C := twoT (tx [121]) (tx [63])
theorem ck_mth : Tab.method T0 (tx [66]) (tx [109]) = some (⟨tx [109], [⟨tx [98], tx [63]⟩], tx [105, 110, 116]⟩, tx [66]) := by kernel_rfl
theorem ck_fld1 : Tab.field T0 (tx [66]) (tx [120]) = some (tx [105, 110, 116]) := by kernel_rfl
theorem ck_fld2 : Tab.field T0 (tx [65]) (tx [121]) = some (tx [65]) ∨ Tab.field T0 (tx [65]) (tx [121]) = none := by right; kernel_rfl
theorem ck_fld3 : Tab.field T0 (tx [65]) (tx [121]) = none := by kernel_rfl
theorem ck_ari : Tab.arity T0 (tx [66]) (tx [110]) = some 0 := by kernel_rfl
theorem ck_find : Tab.ix Tab.C.name T0 (tx [67]) = none := by kernel_rfl
theorem ck_flds : Tab.fields T0 (tx [66]) = [⟨tx [120], tx [105, 110, 116]⟩, ⟨tx [121], tx [65]⟩] := by kernel_rfl
theorem ck_mems : Tab.members T0 (tx [66]) = [(tx [120], -1), (tx [121], -1), (tx [109], 1), (tx [110], 0)] := by kernel_rfl
theorem ck_double : Tab.check [lone (tx [65]) (tx []), lone (tx [65]) (tx [])] = (8, 1) := by kernel_rfl
theorem ck_form : Tab.check [lone (tx [97]) (tx [])] = (5, 0) := by kernel_rfl
theorem ck_name1 : Tab.check [lone (tx [65]) (tx [67])] = (6, 0) := by kernel_rfl
theorem ck_name2 : Tab.check [⟨tx [65], tx [], [⟨tx [120], tx [67]⟩], []⟩] = (6, 0) := by kernel_rfl
theorem ck_over : Tab.check (twoT (tx [121]) (tx [105, 110, 116])) = (10, 1) := by kernel_rfl
theorem ck_dbl : Tab.check (twoT (tx [120]) (tx [63])) = (8, 1) := by kernel_rfl

theorem mem_row {w : World} {base : Nat} {v : Value} {l : List (ByteArray × Int)} (h : w.ownsRow base 42 2 v l.length (l.flatMap bCells)) : Row 2 MemR2 w v l := by
  rcases h.2 with ⟨rfl, h0⟩ | ⟨g, cap, cur, rfl, hg1, hg2, hg3, hg4, hg5, hg6⟩
  · obtain rfl : l = [] := List.eq_nil_of_length_eq_zero h0
    exact Row.nil
  · refine ⟨_, cap, rfl, hg3, hg4, fun i x hx => ⟨g, 0, rfl, ?_⟩⟩
    have c0 := h.cells (g := g) rfl _ _ (flat_at bCells bCells_len l i 0 x hx (by omega))
    have c1 := h.cells (g := g) rfl _ _ (flat_at bCells bCells_len l i 1 x hx (by omega))
    rw [addr_plain] at c0 c1
    exact ⟨by simpa using c0, by simpa [Nat.add_assoc] using c1⟩

theorem row_four {α : Type} {k : Nat} {R : World → Nat → Nat → α → Prop} {w : World} {g : Nat} {x y z u : α} (h : R w g 0 x) (h2 : R w g k y) (h3 : R w g (2 * k) z) (h4 : R w g (3 * k) u) : Row k R w (.slice (some ⟨g, 0, none⟩) 4 4) [x, y, z, u] :=
  ⟨_, 4, rfl, Nat.le_refl _, by decide, fun i a ha => by
    match i, ha with
    | 0, ha => cases ha; exact ⟨g, 0, rfl, by simpa using h⟩
    | 1, ha => cases ha; exact ⟨g, 0, rfl, by simpa using h2⟩
    | 2, ha => cases ha; exact ⟨g, 0, rfl, by simpa using h3⟩
    | 3, ha => cases ha; exact ⟨g, 0, rfl, by simpa using h4⟩⟩

set_option maxHeartbeats 8000000 in
theorem known_c (w : World) (hT : Tb w) : Calls Tryd.prog 3 #[] w fun e w' => e = .returned (.bool true) ∧ Kept w w' := by
  have HT := Lib.hid hT
  clear hT
  go_enter Tryd.func3, Tryd.ntmps3
  go_wp2_with fail
  refine (two_c w).mono ?_
  rintro e w1 ⟨rfl, hm, k1, _⟩
  have HM1 := Lib.hid hm
  have HK1 := Lib.hid k1
  clear hm k1
  go_wp2_with fail
  refine (method_c _ _ T0 (tx [66]) (tx [109]) w1 (HM1.out.tab (by decide) (by decide)) (two_small _ _)).mono ?_
  rintro e w2 ⟨k2, ⟨h0, _⟩ | ⟨m, own, p, h0, rfl, hr⟩⟩
  · rw [ck_mth] at h0; cases h0
  rw [ck_mth] at h0
  injection h0 with h0
  injection h0 with h1 h2
  subst h1 h2
  obtain ⟨pa, pc, rfl⟩ := owns_slice_n hr
  obtain ⟨g, rfl, _⟩ := row_cells hr (by decide)
  obtain ⟨g0, _⟩ := var_cells hr (j := 0) rfl
  have HG0 := Lib.hid g0
  have HK2 := Lib.hid (HK1.out.trans k2)
  have HM2 := Lib.hid (HM1.out.keep k2)
  clear hr k2 g0
  have hkA : Kept w2 (w2.alloc (.cells #[.string (tx [109]), .slice (some ⟨g, 0, none⟩) 1 pc, .string (tx [105, 110, 116])] 26)) := (Kept.refl w2).alloc _
  have HKA := Lib.hid hkA
  have HBM := Lib.hid (Blk.new w2 26 #[.string (tx [109]), .slice (some ⟨g, 0, none⟩) 1 pc, .string (tx [105, 110, 116])])
  have HF1 := Lib.hid (field_c _ _ T0 (tx [66]) (tx [120]) _ ((HM2.out.keep hkA).tab (by decide) (by decide)) (two_small _ _).len)
  rw [ck_fld1] at HF1
  clear hkA
  go_wp2_with fail
  refine HF1.out.mono ?_
  rintro e w3 ⟨rfl, k3⟩
  have HW3 := Lib.hid k3
  clear k3 HF1
  have HF2 := Lib.hid (field_c _ _ T0 (tx [65]) (tx [121]) w3 ((HM2.out.keep (HKA.out.trans HW3.out)).tab (by decide) (by decide)) (two_small _ _).len)
  rw [ck_fld3] at HF2
  go_wp2_with fail
  refine HF2.out.mono ?_
  rintro e w4 ⟨rfl, k4⟩
  have HW4 := Lib.hid (HW3.out.trans k4)
  clear k4 HF2
  have HA := Lib.hid (arity_c _ _ T0 (tx [66]) (tx [110]) w4 ((HM2.out.keep (HKA.out.trans HW4.out)).tab (by decide) (by decide)) (two_small _ _))
  rw [ck_ari] at HA
  go_wp2_with fail
  refine HA.out.mono ?_
  rintro e w5 ⟨rfl, k5⟩
  have HW5 := Lib.hid (HW4.out.trans k5)
  clear k5 HA
  have HM5 := Lib.hid (HM2.out.keep (HKA.out.trans HW5.out))
  have HFi := Lib.hid (tfind_c T0 _ (tx [67]) w5 (HM5.out.tab (by decide) (by decide)))
  unfold FindPost at HFi
  rw [ck_find] at HFi
  simp only [Tab.num, Option.isSome_none] at HFi
  have hbm := HBM.out.kept HW5.out
  have b0 := hbm.cell 0
  have b1 := hbm.cell 1
  have hg := (HKA.out.trans HW5.out).cell HG0.out
  simp only [List.getElem?_toArray, List.getElem?_cons_zero, List.getElem?_cons_succ] at b0 b1
  have HK5 := Lib.hid (HK2.out.trans (HKA.out.trans HW5.out))
  have HFS := Lib.hid (fields_c _ _ T0 (tx [66]) w5 (HM5.out.tab (by decide) (by decide)) (two_small _ _))
  clear hbm
  go_wp2_with fail
  refine HFi.out.mono ?_
  rintro e w5' ⟨rfl, rfl⟩
  go_wp2_with fail
  clear b0 b1 hg
  refine HFS.out.mono ?_
  rintro e w6 ⟨v6, rfl, hr6, k6⟩
  rw [ck_flds] at hr6
  have hrow6 := row_of_owns hr6 (by intro x hx; simp at hx; rcases hx with rfl | rfl <;> exact ⟨sz _ (by decide), sz _ (by decide)⟩)
  obtain ⟨va, vc, rfl⟩ := owns_slice_n hr6
  have hkB : Kept w6 (w6.alloc (.cells #[.string (tx [120]), .string (tx [105, 110, 116]), .string (tx [121]), .string (tx [65])] 35)) := (Kept.refl w6).alloc _
  have hb6 := Blk.new w6 35 #[.string (tx [120]), .string (tx [105, 110, 116]), .string (tx [121]), .string (tx [65])]
  have HSV := Lib.hid (sameVars_y [⟨tx [120], tx [105, 110, 116]⟩, ⟨tx [121], tx [65]⟩] _ (.slice (some ⟨w6.heap.size, 0, none⟩) 2 2) _ (vars_kept hrow6 hkB)
    (row_two ⟨hb6.cell 0, hb6.cell 1, sz _ (by decide), sz _ (by decide)⟩ ⟨hb6.cell 2, hb6.cell 3, sz _ (by decide), sz _ (by decide)⟩))
  have HW6 := Lib.hid (k6.trans hkB)
  clear hr6 hrow6 hkB hb6 k6 HFS HFi
  go_wp2_with fail
  refine HSV.out.mono ?_
  rintro e w7 ⟨rfl, k7⟩
  have HW7 := Lib.hid (HW6.out.trans k7)
  clear k7 HSV
  have HMB := Lib.hid (members_c _ _ T0 (tx [66]) w7 ((HM5.out.keep HW7.out).tab (by decide) (by decide)) (two_small _ _))
  go_wp2_with fail
  refine HMB.out.mono ?_
  rintro e w8 ⟨v8, rfl, hr8, k8⟩
  rw [ck_mems] at hr8
  have hrow8 := mem_row hr8
  obtain ⟨xa, xc, rfl⟩ := owns_slice_n hr8
  have hkC : Kept w8 (w8.alloc (.cells #[.string (tx [120]), .int .i64 (-1), .string (tx [121]), .int .i64 (-1), .string (tx [109]), .int .i64 1, .string (tx [110]), .int .i64 0] 42)) := (Kept.refl w8).alloc _
  have hb8 := Blk.new w8 42 #[.string (tx [120]), .int .i64 (-1), .string (tx [121]), .int .i64 (-1), .string (tx [109]), .int .i64 1, .string (tx [110]), .int .i64 0]
  have HSM := Lib.hid (sameMembers_y [(tx [120], -1), (tx [121], -1), (tx [109], 1), (tx [110], 0)] _ (.slice (some ⟨w8.heap.size, 0, none⟩) 4 4) _ (hrow8.mono fun b o x r => ⟨hkC.cell r.1, hkC.cell r.2⟩)
    (row_four ⟨hb8.cell 0, hb8.cell 1⟩ ⟨hb8.cell 2, hb8.cell 3⟩ ⟨hb8.cell 4, hb8.cell 5⟩ ⟨hb8.cell 6, hb8.cell 7⟩))
  have HW8 := Lib.hid ((HW7.out.trans k8).trans hkC)
  clear hr8 hrow8 hkC hb8 k8 HMB
  go_wp2_with fail
  refine HSM.out.mono ?_
  rintro e w9 ⟨rfl, k9⟩
  have HK9 := Lib.hid (HK5.out.trans (HW8.out.trans k9))
  clear k9 HSM
  go_wp2_with fail
  refine (two_c w9).mono ?_
  rintro e w10 ⟨rfl, hm10, k10, hs10⟩
  have HM10 := Lib.hid hm10
  have HK10 := Lib.hid k10
  clear hm10 k10
  go_wp2_with fail
  refine (two_c w10).mono ?_
  rintro e w11 ⟨rfl, hm11, k11, hs11⟩
  have hoT := HM10.out.keep k11
  have HKW := Lib.hid ((HK9.out.trans HK10.out).trans k11)
  have hsz := (HK9.out.size)
  have r7 := hoT.m8.cell 7
  have r6 := hoT.m6.cell 1
  have r5 := hoT.m5.cell 1
  have f5 := hoT.m5.frozen 1
  have hX := hoT.setT (tx [105, 110, 116])
  have hOX : Only (· = w9.heap.size + 1 + 1 + 1 + 1 + 1) w11 (w11.setCell ⟨w9.heap.size + 1 + 1 + 1 + 1 + 1, 1, none⟩ (.string (tx [105, 110, 116]))) := (Only.refl _ w11).put 1 _
  have hdT := hm11.only hOX (fun k e => by omega)
  have d6 := hdT.m8.cell 6
  have d4 := hdT.m4.cell 0
  have g4 := hdT.m4.frozen 0
  have hY := hdT.setF (tx [120])
  have hOY : Only (· = w10.heap.size + 1 + 1 + 1 + 1) (w11.setCell ⟨w9.heap.size + 1 + 1 + 1 + 1 + 1, 1, none⟩ (.string (tx [105, 110, 116]))) ((w11.setCell ⟨w9.heap.size + 1 + 1 + 1 + 1 + 1, 1, none⟩ (.string (tx [105, 110, 116]))).setCell ⟨w10.heap.size + 1 + 1 + 1 + 1, 0, none⟩ (.string (tx [120]))) := (Only.refl _ _).put 0 _
  have HOT := Lib.hid (hX.only hOY (fun k e => by omega))
  have HDT := Lib.hid hY
  have HKY := Lib.hid ((HKW.out.onlyS hOX (fun k e => by omega)).onlyS hOY (fun k e => by omega))
  simp only [List.getElem?_toArray, List.getElem?_cons_zero, List.getElem?_cons_succ] at r7 r6 r5 d6 d4
  clear hoT hX hdT hY hOX hOY hm11 k11
  have hbA := Blk.new ((w11.setCell ⟨w9.heap.size + 1 + 1 + 1 + 1 + 1, 1, none⟩ (.string (tx [105, 110, 116]))).setCell ⟨w10.heap.size + 1 + 1 + 1 + 1, 0, none⟩ (.string (tx [120]))) 45 #[.string (tx [65]), .string (tx []), .slice none 0 0, .slice none 0 0, .string (tx [65]), .string (tx []), .slice none 0 0, .slice none 0 0]
  rw [World.size_setCell, World.size_setCell] at hbA
  have HKA1 := Lib.hid (HKY.out.alloc (.cells #[.string (tx [65]), .string (tx []), .slice none 0 0, .slice none 0 0, .string (tx [65]), .string (tx []), .slice none 0 0, .slice none 0 0] 45))
  have HF1' := Lib.hid (faulty_y [lone (tx [65]) (tx []), lone (tx [65]) (tx [])] (.slice (some ⟨w11.heap.size, 0, none⟩) 2 2) 8 1 _ (HT.out.kept HKA1.out)
    (row_two ⟨hbA.cell 0, hbA.cell 1, ⟨_, hbA.cell 2, Row.nil⟩, ⟨_, hbA.cell 3, Row.nil⟩, sz _ (by decide), sz _ (by decide)⟩ ⟨hbA.cell 4, hbA.cell 5, ⟨_, hbA.cell 6, Row.nil⟩, ⟨_, hbA.cell 7, Row.nil⟩, sz _ (by decide), sz _ (by decide)⟩) (small_lones [(tx [65], tx []), (tx [65], tx [])] (by decide)) ck_double)
  clear hbA
  go_wp2_with fail
  refine HF1'.out.mono ?_
  rintro e w12 ⟨rfl, k12⟩
  have HY12 := Lib.hid (((Kept.refl _).alloc _).trans k12)
  have HK12 := Lib.hid (HKA1.out.trans k12)
  have HOT12 := Lib.hid (HOT.out.keep HY12.out)
  have HDT12 := Lib.hid (HDT.out.keep HY12.out)
  clear k12 HY12 r7 r6 r5 d6 d4 f5 g4 HF1'
  have HKA2 := Lib.hid (HK12.out.alloc (.cells #[.string (tx [97]), .string (tx []), .slice none 0 0, .slice none 0 0] 45))
  have HF2' := Lib.hid (faulty_y [lone (tx [97]) (tx [])] (.slice (some ⟨w12.heap.size, 0, none⟩) 1 1) 5 0 _ (HT.out.kept HKA2.out) (tab_one (Blk.new w12 _ _) (sz _ (by decide)) (sz _ (by decide))) (small_lones [(tx [97], tx [])] (by decide)) ck_form)
  go_wp2_with fail
  refine HF2'.out.mono ?_
  rintro e w13 ⟨rfl, k13⟩
  have HW13 := Lib.hid (((Kept.refl w12).alloc (.cells #[.string (tx [97]), .string (tx []), .slice none 0 0, .slice none 0 0] 45)).trans k13)
  have HK13 := Lib.hid (HK12.out.trans HW13.out)
  clear k13 HF2'
  have HKA3 := Lib.hid (HK13.out.alloc (.cells #[.string (tx [65]), .string (tx [67]), .slice none 0 0, .slice none 0 0] 45))
  have HF3' := Lib.hid (faulty_y [lone (tx [65]) (tx [67])] (.slice (some ⟨w13.heap.size, 0, none⟩) 1 1) 6 0 _ (HT.out.kept HKA3.out) (tab_one (Blk.new w13 _ _) (sz _ (by decide)) (sz _ (by decide))) (small_lones [(tx [65], tx [67])] (by decide)) ck_name1)
  go_wp2_with fail
  refine HF3'.out.mono ?_
  rintro e w14 ⟨rfl, k14⟩
  have HW14 := Lib.hid (((Kept.refl w13).alloc (.cells #[.string (tx [65]), .string (tx [67]), .slice none 0 0, .slice none 0 0] 45)).trans k14)
  have HK14 := Lib.hid (HK13.out.trans HW14.out)
  clear k14 HF3'
  have hbF := (Blk.new w14 35 #[.string (tx [120]), .string (tx [67])]).alloc (.cells #[.string (tx [65]), .string (tx []), .slice (some ⟨w14.heap.size, 0, none⟩) 1 1, .slice none 0 0] 45)
  have hbC := Blk.new (w14.alloc (.cells #[.string (tx [120]), .string (tx [67])] 35)) 45 #[.string (tx [65]), .string (tx []), .slice (some ⟨w14.heap.size, 0, none⟩) 1 1, .slice none 0 0]
  rw [World.size_alloc] at hbC
  have HKA4 := Lib.hid ((HK14.out.alloc (.cells #[.string (tx [120]), .string (tx [67])] 35)).alloc (.cells #[.string (tx [65]), .string (tx []), .slice (some ⟨w14.heap.size, 0, none⟩) 1 1, .slice none 0 0] 45))
  have HF4' := Lib.hid (faulty_y [⟨tx [65], tx [], [⟨tx [120], tx [67]⟩], []⟩] (.slice (some ⟨w14.heap.size + 1, 0, none⟩) 1 1) 6 0 _ (HT.out.kept HKA4.out)
    (row_one ⟨hbC.cell 0, hbC.cell 1, ⟨_, hbC.cell 2, row_one ⟨hbF.cell 0, hbF.cell 1, sz _ (by decide), sz _ (by decide)⟩⟩, ⟨_, hbC.cell 3, Row.nil⟩, sz _ (by decide), sz _ (by decide)⟩) (by refine ⟨by decide, ?_, ?_, ?_⟩ <;> simp) ck_name2)
  have HW14a := Lib.hid (((Kept.refl w14).alloc (.cells #[.string (tx [120]), .string (tx [67])] 35)).alloc (.cells #[.string (tx [65]), .string (tx []), .slice (some ⟨w14.heap.size, 0, none⟩) 1 1, .slice none 0 0] 45))
  clear hbF hbC
  go_wp2_with fail
  refine HF4'.out.mono ?_
  rintro e w15 ⟨rfl, k15⟩
  have HW15 := Lib.hid (HW14a.out.trans k15)
  have HK15 := Lib.hid (HK14.out.trans HW15.out)
  clear k15 HF4'
  go_wp2_with fail
  refine (awake_c w15 (HT.out.kept HK15.out)).mono ?_
  rintro e w16 ⟨rfl, k16⟩
  have HW16 := Lib.hid (((HW13.out.trans HW14.out).trans HW15.out).trans k16)
  have HK16 := Lib.hid (HK15.out.trans k16)
  clear k16
  have HF5' := Lib.hid (faulty_y _ _ 10 1 w16 (HT.out.kept HK16.out) ((HOT12.out.keep HW16.out).tab (by decide) (by decide)) (two_small _ _) ck_over)
  go_wp2_with fail
  refine HF5'.out.mono ?_
  rintro e w17 ⟨rfl, k17⟩
  have HF6' := Lib.hid (faulty_y _ _ 8 1 w17 (HT.out.kept (HK16.out.trans k17)) ((HDT12.out.keep (HW16.out.trans k17)).tab (by decide) (by decide)) (two_small _ _) ck_dbl)
  have HK17 := Lib.hid (HK16.out.trans k17)
  clear k17
  go_wp2_with fail
  refine HF6'.out.mono ?_
  rintro e w18 ⟨rfl, k18⟩
  go_wp2_with fail
  go_ret
  exact ⟨rfl, HK17.out.trans k18⟩

end Go.Proofs.YtbjomddjbfgclaaDoor
