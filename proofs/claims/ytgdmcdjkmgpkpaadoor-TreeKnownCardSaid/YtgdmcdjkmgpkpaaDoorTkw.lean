/- TreeKnown: the chapter's examples. -/
import Derived.Test.YtgdmcdjkmgpkpaaDoorNkd
import Derived.Test.YtgdmcdjkmgpkpaaDoorNcl
set_option linter.unusedSimpArgs false
set_option linter.unusedVariables false
set_option maxRecDepth 100000
namespace Go.Proofs.YtgdmcdjkmgpkpaaDoor
open Go.ChangeShapes Go.WideShapes Go.ChangeAt Go.RowKit Go.Shelf
attribute [local go_sem] Oper.semAt_some

theorem at2 : atQ (progT threeT) 2 = some threeT := rfl
theorem at3 : atQ (progT threeT) 3 = none := rfl
def zeroN : Value := .agg #[.int .i64 0, .string ⟨#[]⟩, .string ⟨#[]⟩, .string ⟨#[]⟩, .int .i64 0, .slice none 0 0]
theorem at_three {e : Ending} {w : World} {R : World → Value → Prop} {q : Prop} (h : (∃ y a c, atQ (progT threeT) 2 = some y ∧ e = .returned (.tuple #[ndV y (.slice a y.kids.length c), .int .i64 0]) ∧ R w (.slice a y.kids.length c)) ∨ (atQ (progT threeT) 2 = none ∧ q)) :
    ∃ a c, e = .returned (.tuple #[.agg #[.int .i64 7, .string emS, .string emS, .string emS, .int .i64 3, .slice a 0 c], .int .i64 0]) := by
  rcases h with ⟨y, a, c, hq, rfl, _⟩ | ⟨hq, _⟩
  · obtain rfl : threeT = y := Option.some.inj (at2.symm.trans hq)
    exact ⟨a, c, rfl⟩
  · rw [at2] at hq
    cases hq
theorem at_none {e : Ending} {w : World} {R : World → Value → Prop} (h : (∃ y a c, atQ (progT threeT) 3 = some y ∧ e = .returned (.tuple #[ndV y (.slice a y.kids.length c), .int .i64 0]) ∧ R w (.slice a y.kids.length c)) ∨ (atQ (progT threeT) 3 = none ∧ e = .returned (.tuple #[.agg #[.int .i64 0, .string ⟨#[]⟩, .string ⟨#[]⟩, .string ⟨#[]⟩, .int .i64 0, .slice none 0 0], .int .i64 3]))) :
    e = .returned (.tuple #[.agg #[.int .i64 0, .string ⟨#[]⟩, .string ⟨#[]⟩, .string ⟨#[]⟩, .int .i64 0, .slice none 0 0], .int .i64 3]) := by
  rcases h with ⟨y, a, c, hq, rfl, _⟩ | ⟨hq, h⟩
  · rw [at3] at hq
    cases hq
  · exact h
theorem ksF : sameP (ndK 11) (ndK 13) = false := by decide +kernel
theorem ksT : sameP (ndK 11) (ndK 11) = true := by decide +kernel
theorem same_f (w : World) : Calls Tryd.prog 18 #[.agg #[.int .i64 11, .string emS, .string emS, .string emS, .int .i64 0, .slice none 0 0], .agg #[.int .i64 13, .string emS, .string emS, .string emS, .int .i64 0, .slice none 0 0]] w fun e w' => e = .returned (.bool false) ∧ Kept w w' := by
  have h := same_c (ndK 11) (ndK 13) none none 0 0 w (okK 11 (by decide)) (kids_nil w) (okK 13 (by decide)) (kids_nil w) (by decide +kernel) (by decide +kernel)
  rw [ksF] at h
  exact h
theorem same_t (w : World) : Calls Tryd.prog 18 #[.agg #[.int .i64 11, .string emS, .string emS, .string emS, .int .i64 0, .slice none 0 0], .agg #[.int .i64 11, .string emS, .string emS, .string emS, .int .i64 0, .slice none 0 0]] w fun e w' => e = .returned (.bool true) ∧ Kept w w' := by
  have h := same_c (ndK 11) (ndK 11) none none 0 0 w (okK 11 (by decide)) (kids_nil w) (okK 11 (by decide)) (kids_nil w) (by decide +kernel) (by decide +kernel)
  rw [ksT] at h
  exact h

set_option maxHeartbeats 16000000 in
theorem tknown_c (w0 : World) (hT : Tb w0) : Calls Tryd.prog 4 #[] w0 fun e w' => e = .returned (.bool true) ∧ Kept w0 w' := by
  have HT := Lib.hid (fun W (k : Kept w0 W) => hT.kept k)
  have K0 := Lib.hid (Kept.refl w0)
  clear hT
  go_enter Tryd.func4, Tryd.ntmps4
  go_wp2_with fail
  refine (node_b 11 none 0 0 w0).mono ?_
  rintro e w1 ⟨rfl, k⟩
  have K1 := Lib.hid (K0.out.trans k)
  clear k K0
  obtain ⟨w2, hw2⟩ : ∃ W, w1.alloc (.cells #[.int .i64 11, .string emS, .string emS, .string emS, .int .i64 0, .slice none 0 0] 24) = W := ⟨_, rfl⟩
  have k : Kept w1 w2 := by rw [← hw2]; exact (Kept.refl _).alloc _
  have K2 := Lib.hid (K1.out.trans k)
  clear k K1
  have HU := Lib.hid (show Blk w2 w1.heap.size 24 #[.int .i64 11, .string emS, .string emS, .string emS, .int .i64 0, .slice none 0 0] by rw [← hw2]; exact Blk.new _ _ _)
  have Ew2 := Lib.hid hw2
  clear hw2
  go_wp2_with (rw [Ew2.out])
  clear Ew2
  refine (node_b 1 none 0 0 w2).mono ?_
  rintro e w3 ⟨rfl, k⟩
  replace HU := Lib.hid (HU.out.kept k)
  have K3 := Lib.hid (K2.out.trans k)
  clear k K2
  go_wp2_with fail
  refine (checks_b (ndK 1) none 0 5 0 w3 (HT.out w3 K3.out) (okK 1 (by decide)) (kids_nil w3) (by decide +kernel) kx4).mono ?_
  rintro e w4 ⟨rfl, k⟩
  replace HU := Lib.hid (HU.out.kept k)
  have K4 := Lib.hid (K3.out.trans k)
  clear k K3
  go_wp2_with fail
  refine (three_b w4).mono ?_
  rintro e w5 ⟨rfl, k⟩
  replace HU := Lib.hid (HU.out.kept k)
  have K5 := Lib.hid (K4.out.trans k)
  clear k K4
  obtain ⟨w6, hw6⟩ : ∃ W, w5.alloc (.cells #[.int .i64 7, .string emS, .string emS, .string emS, .int .i64 3, .slice none 0 0] 24) = W := ⟨_, rfl⟩
  have k : Kept w5 w6 := by rw [← hw6]; exact (Kept.refl _).alloc _
  replace HU := Lib.hid (HU.out.kept k)
  have K6 := Lib.hid (K5.out.trans k)
  clear k K5
  have HB := Lib.hid (show Blk w6 w5.heap.size 24 #[.int .i64 7, .string emS, .string emS, .string emS, .int .i64 3, .slice none 0 0] by rw [← hw6]; exact Blk.new _ _ _)
  have Ew6 := Lib.hid hw6
  clear hw6
  have HQ := Lib.hid (KidsD.one (c := 1) (blk_node (x := threeT) ok3 (kids_nil w6) HB.out trivial) (Nat.le_refl _) (by decide))
  clear HB
  go_wp2_with (rw [Ew6.out])
  clear Ew6
  refine (named_b 15 ⟨#[120]⟩ ⟨#[63]⟩ (some ⟨w5.heap.size, 0, none⟩) 1 1 w6).mono ?_
  rintro e w7 ⟨rfl, k⟩
  replace HU := Lib.hid (HU.out.kept k)
  replace HQ := Lib.hid (KidsD.kept HQ.out k)
  have K7 := Lib.hid (K6.out.trans k)
  clear k K6
  go_wp2_with fail
  refine (program_b (ndT 15 ⟨#[120]⟩ ⟨#[63]⟩ [threeT]) (some ⟨w5.heap.size, 0, none⟩) 1 w7 (nd_ok _ _ _ _ _ _ (by decide) (by decide) (by decide) (by decide) (by decide)) (HQ.out)).mono ?_
  rintro e w8 ⟨g8, rfl, h, k⟩
  replace HU := Lib.hid (HU.out.kept k)
  replace HQ := Lib.hid (KidsD.kept HQ.out k)
  have K8 := Lib.hid (K7.out.trans k)
  clear k K7
  have HP := Lib.hid h
  clear h
  clear HQ
  go_wp2_with fail
  refine (checks_b (progT (ndT 15 ⟨#[120]⟩ ⟨#[63]⟩ [threeT])) (some ⟨g8, 0, none⟩) 1 0 0 w8 (HT.out w8 K8.out) (okP _) HP.out (by decide +kernel) kx5).mono ?_
  rintro e w9 ⟨rfl, k⟩
  replace HU := Lib.hid (HU.out.kept k)
  replace HP := Lib.hid (KidsD.kept HP.out k)
  have K9 := Lib.hid (K8.out.trans k)
  clear k K8
  clear HP
  go_wp2_with fail
  refine (named_b 12 ⟨#[]⟩ ⟨#[97]⟩ none 0 0 w9).mono ?_
  rintro e w10 ⟨rfl, k⟩
  replace HU := Lib.hid (HU.out.kept k)
  have K10 := Lib.hid (K9.out.trans k)
  clear k K9
  go_wp2_with fail
  refine (program_b (ndT 12 emS ⟨#[97]⟩ []) none 0 w10 (nd_ok _ _ _ _ _ _ (by decide) (by decide) (by decide) (by decide) (by decide)) (kids_nil w10)).mono ?_
  rintro e w11 ⟨g11, rfl, h, k⟩
  replace HU := Lib.hid (HU.out.kept k)
  have K11 := Lib.hid (K10.out.trans k)
  clear k K10
  have HP := Lib.hid h
  clear h
  go_wp2_with fail
  refine (checks_b (progT (ndT 12 emS ⟨#[97]⟩ [])) (some ⟨g11, 0, none⟩) 1 6 2 w11 (HT.out w11 K11.out) (okP _) HP.out (by decide +kernel) kx6).mono ?_
  rintro e w12 ⟨rfl, k⟩
  replace HU := Lib.hid (HU.out.kept k)
  replace HP := Lib.hid (KidsD.kept HP.out k)
  have K12 := Lib.hid (K11.out.trans k)
  clear k K11
  clear HP
  go_wp2_with fail
  refine (program_b (.mk 7 emS emS emS (-1) []) none 0 w12 (nd_ok _ _ _ _ _ _ (by decide) (by decide) (by decide) (by decide) (by decide)) (kids_nil w12)).mono ?_
  rintro e w13 ⟨g13, rfl, h, k⟩
  replace HU := Lib.hid (HU.out.kept k)
  have K13 := Lib.hid (K12.out.trans k)
  clear k K12
  have HP := Lib.hid h
  clear h
  go_wp2_with fail
  refine (checks_b (progT (.mk 7 emS emS emS (-1) [])) (some ⟨g13, 0, none⟩) 1 3 2 w13 (HT.out w13 K13.out) (okP _) HP.out (by decide +kernel) kx7).mono ?_
  rintro e w14 ⟨rfl, k⟩
  replace HU := Lib.hid (HU.out.kept k)
  replace HP := Lib.hid (KidsD.kept HP.out k)
  have K14 := Lib.hid (K13.out.trans k)
  clear k K13
  clear HP
  go_wp2_with fail
  refine (named_b 17 ⟨#[97]⟩ ⟨#[]⟩ none 0 0 w14).mono ?_
  rintro e w15 ⟨rfl, k⟩
  replace HU := Lib.hid (HU.out.kept k)
  have K15 := Lib.hid (K14.out.trans k)
  clear k K14
  go_wp2_with fail
  refine (program_b (ndT 17 ⟨#[97]⟩ emS []) none 0 w15 (nd_ok _ _ _ _ _ _ (by decide) (by decide) (by decide) (by decide) (by decide)) (kids_nil w15)).mono ?_
  rintro e w16 ⟨g16, rfl, h, k⟩
  replace HU := Lib.hid (HU.out.kept k)
  have K16 := Lib.hid (K15.out.trans k)
  clear k K15
  have HP := Lib.hid h
  clear h
  go_wp2_with fail
  refine (checks_b (progT (ndT 17 ⟨#[97]⟩ emS [])) (some ⟨g16, 0, none⟩) 1 5 2 w16 (HT.out w16 K16.out) (okP _) HP.out (by decide +kernel) kx8).mono ?_
  rintro e w17 ⟨rfl, k⟩
  replace HU := Lib.hid (HU.out.kept k)
  replace HP := Lib.hid (KidsD.kept HP.out k)
  have K17 := Lib.hid (K16.out.trans k)
  clear k K16
  clear HP
  obtain ⟨hu0, hu1, hu2, hu3, hu4, hu5⟩ : w17.cell? ⟨w1.heap.size, 0, none⟩ = some (.int .i64 11) ∧ w17.cell? ⟨w1.heap.size, 1, none⟩ = some (.string emS) ∧ w17.cell? ⟨w1.heap.size, 2, none⟩ = some (.string emS) ∧ w17.cell? ⟨w1.heap.size, 3, none⟩ = some (.string emS) ∧ w17.cell? ⟨w1.heap.size, 4, none⟩ = some (.int .i64 0) ∧ w17.cell? ⟨w1.heap.size, 5, none⟩ = some (.slice none 0 0) := ⟨HU.out.cell 0, HU.out.cell 1, HU.out.cell 2, HU.out.cell 3, HU.out.cell 4, HU.out.cell 5⟩
  obtain ⟨w18, hw18⟩ : ∃ W, w17.alloc (.cells #[.int .i64 11, .string emS, .string emS, .string emS, .int .i64 0, .slice none 0 0] 24) = W := ⟨_, rfl⟩
  have k : Kept w17 w18 := by rw [← hw18]; exact (Kept.refl _).alloc _
  replace HU := Lib.hid (HU.out.kept k)
  have K18 := Lib.hid (K17.out.trans k)
  clear k K17
  have HB := Lib.hid (show Blk w18 w17.heap.size 24 #[.int .i64 11, .string emS, .string emS, .string emS, .int .i64 0, .slice none 0 0] by rw [← hw18]; exact Blk.new _ _ _)
  have Ew18 := Lib.hid hw18
  clear hw18
  have HQ := Lib.hid (KidsD.one (c := 1) (blk_node (x := ndK 11) (okK 11 (by decide)) (kids_nil w18) HB.out trivial) (Nat.le_refl _) (by decide))
  clear HB
  go_wp2_with (rw [Ew18.out])
  clear Ew18
  clear hu0
  clear hu1
  clear hu2
  clear hu3
  clear hu4
  clear hu5
  refine (named_b 24 ⟨#[63]⟩ ⟨#[]⟩ (some ⟨w17.heap.size, 0, none⟩) 1 1 w18).mono ?_
  rintro e w19 ⟨rfl, k⟩
  replace HU := Lib.hid (HU.out.kept k)
  replace HQ := Lib.hid (KidsD.kept HQ.out k)
  have K19 := Lib.hid (K18.out.trans k)
  clear k K18
  go_wp2_with fail
  refine (program_b (ndT 24 ⟨#[63]⟩ emS [ndK 11]) (some ⟨w17.heap.size, 0, none⟩) 1 w19 (nd_ok _ _ _ _ _ _ (by decide) (by decide) (by decide) (by decide) (by decide)) (HQ.out)).mono ?_
  rintro e w20 ⟨g20, rfl, h, k⟩
  replace HU := Lib.hid (HU.out.kept k)
  replace HQ := Lib.hid (KidsD.kept HQ.out k)
  have K20 := Lib.hid (K19.out.trans k)
  clear k K19
  have HP := Lib.hid h
  clear h
  clear HQ
  go_wp2_with fail
  refine (checks_b (progT (ndT 24 ⟨#[63]⟩ emS [ndK 11])) (some ⟨g20, 0, none⟩) 1 5 2 w20 (HT.out w20 K20.out) (okP _) HP.out (by decide +kernel) kx9).mono ?_
  rintro e w21 ⟨rfl, k⟩
  replace HU := Lib.hid (HU.out.kept k)
  replace HP := Lib.hid (KidsD.kept HP.out k)
  have K21 := Lib.hid (K20.out.trans k)
  clear k K20
  clear HP
  go_wp2_with fail
  refine (node_b 6 none 0 0 w21).mono ?_
  rintro e w22 ⟨rfl, k⟩
  replace HU := Lib.hid (HU.out.kept k)
  have K22 := Lib.hid (K21.out.trans k)
  clear k K21
  obtain ⟨w23, hw23⟩ : ∃ W, w22.alloc (.cells #[.int .i64 6, .string emS, .string emS, .string emS, .int .i64 0, .slice none 0 0] 24) = W := ⟨_, rfl⟩
  have k : Kept w22 w23 := by rw [← hw23]; exact (Kept.refl _).alloc _
  replace HU := Lib.hid (HU.out.kept k)
  have K23 := Lib.hid (K22.out.trans k)
  clear k K22
  have HB := Lib.hid (show Blk w23 w22.heap.size 24 #[.int .i64 6, .string emS, .string emS, .string emS, .int .i64 0, .slice none 0 0] by rw [← hw23]; exact Blk.new _ _ _)
  have Ew23 := Lib.hid hw23
  clear hw23
  have HQ := Lib.hid (KidsD.one (c := 1) (blk_node (x := ndK 6) (okK 6 (by decide)) (kids_nil w23) HB.out trivial) (Nat.le_refl _) (by decide))
  clear HB
  go_wp2_with (rw [Ew23.out])
  clear Ew23
  refine (node_b 27 (some ⟨w22.heap.size, 0, none⟩) 1 1 w23).mono ?_
  rintro e w24 ⟨rfl, k⟩
  replace HU := Lib.hid (HU.out.kept k)
  replace HQ := Lib.hid (KidsD.kept HQ.out k)
  have K24 := Lib.hid (K23.out.trans k)
  clear k K23
  go_wp2_with fail
  refine (program_b (ndT 27 emS emS [ndK 6]) (some ⟨w22.heap.size, 0, none⟩) 1 w24 (nd_ok _ _ _ _ _ _ (by decide) (by decide) (by decide) (by decide) (by decide)) (HQ.out)).mono ?_
  rintro e w25 ⟨g25, rfl, h, k⟩
  replace HU := Lib.hid (HU.out.kept k)
  replace HQ := Lib.hid (KidsD.kept HQ.out k)
  have K25 := Lib.hid (K24.out.trans k)
  clear k K24
  have HP := Lib.hid h
  clear h
  clear HQ
  go_wp2_with fail
  refine (checks_b (progT (ndT 27 emS emS [ndK 6])) (some ⟨g25, 0, none⟩) 1 5 2 w25 (HT.out w25 K25.out) (okP _) HP.out (by decide +kernel) kx10).mono ?_
  rintro e w26 ⟨rfl, k⟩
  replace HU := Lib.hid (HU.out.kept k)
  replace HP := Lib.hid (KidsD.kept HP.out k)
  have K26 := Lib.hid (K25.out.trans k)
  clear k K25
  clear HP
  obtain ⟨hu0, hu1, hu2, hu3, hu4, hu5⟩ : w26.cell? ⟨w1.heap.size, 0, none⟩ = some (.int .i64 11) ∧ w26.cell? ⟨w1.heap.size, 1, none⟩ = some (.string emS) ∧ w26.cell? ⟨w1.heap.size, 2, none⟩ = some (.string emS) ∧ w26.cell? ⟨w1.heap.size, 3, none⟩ = some (.string emS) ∧ w26.cell? ⟨w1.heap.size, 4, none⟩ = some (.int .i64 0) ∧ w26.cell? ⟨w1.heap.size, 5, none⟩ = some (.slice none 0 0) := ⟨HU.out.cell 0, HU.out.cell 1, HU.out.cell 2, HU.out.cell 3, HU.out.cell 4, HU.out.cell 5⟩
  obtain ⟨w27, hw27⟩ : ∃ W, w26.alloc (.cells #[.int .i64 11, .string emS, .string emS, .string emS, .int .i64 0, .slice none 0 0] 24) = W := ⟨_, rfl⟩
  have k : Kept w26 w27 := by rw [← hw27]; exact (Kept.refl _).alloc _
  replace HU := Lib.hid (HU.out.kept k)
  have K27 := Lib.hid (K26.out.trans k)
  clear k K26
  have HB := Lib.hid (show Blk w27 w26.heap.size 24 #[.int .i64 11, .string emS, .string emS, .string emS, .int .i64 0, .slice none 0 0] by rw [← hw27]; exact Blk.new _ _ _)
  have Ew27 := Lib.hid hw27
  clear hw27
  have HQ := Lib.hid (KidsD.one (c := 1) (blk_node (x := ndK 11) (okK 11 (by decide)) (kids_nil w27) HB.out trivial) (Nat.le_refl _) (by decide))
  clear HB
  go_wp2_with (rw [Ew27.out])
  clear Ew27
  clear hu0
  clear hu1
  clear hu2
  clear hu3
  clear hu4
  clear hu5
  refine (named_b 28 ⟨#[]⟩ ⟨#[105, 110, 116, 50]⟩ (some ⟨w26.heap.size, 0, none⟩) 1 1 w27).mono ?_
  rintro e w28 ⟨rfl, k⟩
  replace HU := Lib.hid (HU.out.kept k)
  replace HQ := Lib.hid (KidsD.kept HQ.out k)
  have K28 := Lib.hid (K27.out.trans k)
  clear k K27
  go_wp2_with fail
  refine (program_b (ndT 28 emS ⟨#[105, 110, 116, 50]⟩ [ndK 11]) (some ⟨w26.heap.size, 0, none⟩) 1 w28 (nd_ok _ _ _ _ _ _ (by decide) (by decide) (by decide) (by decide) (by decide)) (HQ.out)).mono ?_
  rintro e w29 ⟨g29, rfl, h, k⟩
  replace HU := Lib.hid (HU.out.kept k)
  replace HQ := Lib.hid (KidsD.kept HQ.out k)
  have K29 := Lib.hid (K28.out.trans k)
  clear k K28
  have HP := Lib.hid h
  clear h
  clear HQ
  go_wp2_with fail
  refine (checks_b (progT (ndT 28 emS ⟨#[105, 110, 116, 50]⟩ [ndK 11])) (some ⟨g29, 0, none⟩) 1 7 2 w29 (HT.out w29 K29.out) (okP _) HP.out (by decide +kernel) kx11).mono ?_
  rintro e w30 ⟨rfl, k⟩
  replace HU := Lib.hid (HU.out.kept k)
  replace HP := Lib.hid (KidsD.kept HP.out k)
  have K30 := Lib.hid (K29.out.trans k)
  clear k K29
  clear HP
  go_wp2_with fail
  refine (three_b w30).mono ?_
  rintro e w31 ⟨rfl, k⟩
  replace HU := Lib.hid (HU.out.kept k)
  have K31 := Lib.hid (K30.out.trans k)
  clear k K30
  go_wp2_with fail
  refine (program_b (threeT) none 0 w31 (nd_ok _ _ _ _ _ _ (by decide) (by decide) (by decide) (by decide) (by decide)) (kids_nil w31)).mono ?_
  rintro e w32 ⟨g32, rfl, h, k⟩
  replace HU := Lib.hid (HU.out.kept k)
  have K32 := Lib.hid (K31.out.trans k)
  clear k K31
  have HP := Lib.hid h
  clear h
  go_wp2_with fail
  refine (at_c (progT threeT) (some ⟨g32, 0, none⟩) 1 2 w32 noR (w32.heap.size + 7) rfl (okP _) HP.out (by decide +kernel) (fun _ _ _ _ _ => trivial) (fun y a c W hq _ _ _ _ => by obtain rfl : threeT = y := Option.some.inj (at2.symm.trans hq); exact copied3 a c W)).mono ?_
  rintro e w33 ⟨h, k⟩
  obtain ⟨ax, cx, rfl⟩ := at_three h; clear h
  replace HU := Lib.hid (HU.out.kept k)
  replace HP := Lib.hid (KidsD.kept HP.out k)
  have K33 := Lib.hid (K32.out.trans k)
  clear k K32
  clear HP
  obtain ⟨w34, hw34⟩ : ∃ W, w33.alloc (.cells #[.int .i64 7, .string emS, .string emS, .string emS, .int .i64 3, .slice ax 0 cx] 24) = W := ⟨_, rfl⟩
  have k : Kept w33 w34 := by rw [← hw34]; exact (Kept.refl _).alloc _
  replace HU := Lib.hid (HU.out.kept k)
  have K34 := Lib.hid (K33.out.trans k)
  clear k K33
  have HX := Lib.hid (show Blk w34 w33.heap.size 24 #[.int .i64 7, .string emS, .string emS, .string emS, .int .i64 3, .slice ax 0 cx] by rw [← hw34]; exact Blk.new _ _ _)
  have Ew34 := Lib.hid hw34
  clear hw34
  go_wp2_with (rw [Ew34.out])
  clear Ew34
  refine (three_b w34).mono ?_
  rintro e w35 ⟨rfl, k⟩
  replace HU := Lib.hid (HU.out.kept k)
  replace HX := Lib.hid (HX.out.kept k)
  have K35 := Lib.hid (K34.out.trans k)
  clear k K34
  go_wp2_with fail
  refine (program_b (threeT) none 0 w35 (nd_ok _ _ _ _ _ _ (by decide) (by decide) (by decide) (by decide) (by decide)) (kids_nil w35)).mono ?_
  rintro e w36 ⟨g36, rfl, h, k⟩
  replace HU := Lib.hid (HU.out.kept k)
  replace HX := Lib.hid (HX.out.kept k)
  have K36 := Lib.hid (K35.out.trans k)
  clear k K35
  have HP := Lib.hid h
  clear h
  go_wp2_with fail
  refine (at_c (progT threeT) (some ⟨g36, 0, none⟩) 1 3 w36 noR (w36.heap.size + 7) rfl (okP _) HP.out (by decide +kernel) (fun _ _ _ _ _ => trivial) (fun y a c W hq _ _ _ _ => by rw [at3] at hq; cases hq)).mono ?_
  rintro e w37 ⟨h, k⟩
  obtain rfl := at_none h; clear h
  replace HU := Lib.hid (HU.out.kept k)
  replace HX := Lib.hid (HX.out.kept k)
  replace HP := Lib.hid (KidsD.kept HP.out k)
  have K37 := Lib.hid (K36.out.trans k)
  clear k K36
  clear HP
  have k : Kept w37 (w37.alloc (.cells #[.int .i64 0, .string ⟨#[]⟩, .string ⟨#[]⟩, .string ⟨#[]⟩, .int .i64 0, .slice none 0 0] 24)) := (Kept.refl _).alloc _
  go_wp2_with fail
  generalize w37.alloc (.cells #[.int .i64 0, .string ⟨#[]⟩, .string ⟨#[]⟩, .string ⟨#[]⟩, .int .i64 0, .slice none 0 0] 24) = w38 at k ⊢
  replace HU := Lib.hid (HU.out.kept k)
  replace HX := Lib.hid (HX.out.kept k)
  have K38 := Lib.hid (K37.out.trans k)
  clear k K37
  have HH := Lib.hid (show ∀ W', Kept w38 W' → (fun W => W.cell? ⟨w1.heap.size, 0, none⟩ = some (.int .i64 11) ∧ W.cell? ⟨w1.heap.size, 1, none⟩ = some (.string emS) ∧ W.cell? ⟨w1.heap.size, 2, none⟩ = some (.string emS) ∧ W.cell? ⟨w1.heap.size, 3, none⟩ = some (.string emS) ∧ W.cell? ⟨w1.heap.size, 4, none⟩ = some (.int .i64 0) ∧ W.cell? ⟨w1.heap.size, 5, none⟩ = some (.slice none 0 0) ∧ W.cell? ⟨w33.heap.size, 0, none⟩ = some (.int .i64 7) ∧ W.cell? ⟨w33.heap.size, 1, none⟩ = some (.string emS) ∧ W.cell? ⟨w33.heap.size, 2, none⟩ = some (.string emS) ∧ W.cell? ⟨w33.heap.size, 3, none⟩ = some (.string emS) ∧ W.cell? ⟨w33.heap.size, 4, none⟩ = some (.int .i64 3) ∧ W.cell? ⟨w33.heap.size, 5, none⟩ = some (.slice ax 0 cx) ∧ Kept w38 W) W' from fun W' k => ⟨(HU.out.kept k).cell 0, (HU.out.kept k).cell 1, (HU.out.kept k).cell 2, (HU.out.kept k).cell 3, (HU.out.kept k).cell 4, (HU.out.kept k).cell 5, (HX.out.kept k).cell 0, (HX.out.kept k).cell 1, (HX.out.kept k).cell 2, (HX.out.kept k).cell 3, (HX.out.kept k).cell 4, (HX.out.kept k).cell 5, k⟩)
  refine wp_region_held_drew (S := (fun W => W.cell? ⟨w1.heap.size, 0, none⟩ = some (.int .i64 11) ∧ W.cell? ⟨w1.heap.size, 1, none⟩ = some (.string emS) ∧ W.cell? ⟨w1.heap.size, 2, none⟩ = some (.string emS) ∧ W.cell? ⟨w1.heap.size, 3, none⟩ = some (.string emS) ∧ W.cell? ⟨w1.heap.size, 4, none⟩ = some (.int .i64 0) ∧ W.cell? ⟨w1.heap.size, 5, none⟩ = some (.slice none 0 0) ∧ W.cell? ⟨w33.heap.size, 0, none⟩ = some (.int .i64 7) ∧ W.cell? ⟨w33.heap.size, 1, none⟩ = some (.string emS) ∧ W.cell? ⟨w33.heap.size, 2, none⟩ = some (.string emS) ∧ W.cell? ⟨w33.heap.size, 3, none⟩ = some (.string emS) ∧ W.cell? ⟨w33.heap.size, 4, none⟩ = some (.int .i64 3) ∧ W.cell? ⟨w33.heap.size, 5, none⟩ = some (.slice ax 0 cx) ∧ Kept w38 W)) (by kernel_rfl) (HH.out _ (Kept.refl w38).drew) (fun hHeld0 => ?_)
  refine wpAnyH_ready (rs := [0]) (by kernel_rfl) (by simp) ?_
  refine AllReadyH.cons rfl (fun K hK => ?_) AllReadyH.nil
  go_simp
  go_at_call 9
  refine (awake_b _ ((HT.out _ K38.out).kept (Kept.refl _).drew)).mono ?_
  rintro e x1 ⟨rfl, k1⟩
  replace k1 := Lib.hid ((Kept.refl w38).drew.trans k1)
  refine hK.out _ _ (HH.out _ k1.out) (fun hHeld1 => ?_)
  clear hK K
  (try simp only [Act.put, List.getElem_toArray, List.getElem_cons_zero, List.getElem_cons_succ, List.setIfInBounds_toArray, List.set_cons_zero, List.set_cons_succ])
  clear hHeld0
  refine wpAnyH_take (i := 1) (v := ?_) rfl (by kernel_rfl) (by kernel_rfl) (by kernel_rfl) (fun _ _ _ h => h) (Or.inl ⟨by kernel_rfl, ?_⟩) (by assumption) ?_
  rotate_left
  · intro w hSw; (try dsimp only at hSw); go_simp; (try with_reducible rfl)
  (try simp only [Act.put, List.getElem_toArray, List.getElem_cons_zero, List.getElem_cons_succ, List.setIfInBounds_toArray, List.set_cons_zero, List.set_cons_succ])
  refine wpAnyH_take (i := 2) (v := ?_) rfl (by kernel_rfl) (by kernel_rfl) (by kernel_rfl) (fun _ _ _ h => h) (Or.inl ⟨by kernel_rfl, ?_⟩) (by assumption) ?_
  rotate_left
  · intro w hSw; (try dsimp only at hSw); go_simp; (try with_reducible rfl)
  (try simp only [Act.put, List.getElem_toArray, List.getElem_cons_zero, List.getElem_cons_succ, List.setIfInBounds_toArray, List.set_cons_zero, List.set_cons_succ])
  refine wpAnyH_take (i := 3) (v := ?_) rfl (by kernel_rfl) (by kernel_rfl) (by kernel_rfl) (fun _ _ _ h => h) (Or.inl ⟨by kernel_rfl, ?_⟩) (by assumption) ?_
  rotate_left
  · intro w hSw; (try dsimp only at hSw); go_simp; (try with_reducible rfl)
  (try simp only [Act.put, List.getElem_toArray, List.getElem_cons_zero, List.getElem_cons_succ, List.setIfInBounds_toArray, List.set_cons_zero, List.set_cons_succ])
  refine wpAnyH_take (i := 4) (v := ?_) rfl (by kernel_rfl) (by kernel_rfl) (by kernel_rfl) (fun _ _ _ h => h) (Or.inl ⟨by kernel_rfl, ?_⟩) (by assumption) ?_
  rotate_left
  · intro w hSw; (try dsimp only at hSw); go_simp; (try with_reducible rfl)
  (try simp only [Act.put, List.getElem_toArray, List.getElem_cons_zero, List.getElem_cons_succ, List.setIfInBounds_toArray, List.set_cons_zero, List.set_cons_succ])
  refine wpAnyH_take (i := 5) (v := ?_) rfl (by kernel_rfl) (by kernel_rfl) (by kernel_rfl) (fun _ _ _ h => h) (Or.inl ⟨by kernel_rfl, ?_⟩) (by assumption) ?_
  rotate_left
  · intro w hSw; (try dsimp only at hSw); go_simp; (try with_reducible rfl)
  (try simp only [Act.put, List.getElem_toArray, List.getElem_cons_zero, List.getElem_cons_succ, List.setIfInBounds_toArray, List.set_cons_zero, List.set_cons_succ])
  refine wpAnyH_take (i := 6) (v := ?_) rfl (by kernel_rfl) (by kernel_rfl) (by kernel_rfl) (fun _ _ _ h => h) (Or.inl ⟨by kernel_rfl, ?_⟩) (by assumption) ?_
  rotate_left
  · intro w hSw; (try dsimp only at hSw); go_simp; (try with_reducible rfl)
  (try simp only [Act.put, List.getElem_toArray, List.getElem_cons_zero, List.getElem_cons_succ, List.setIfInBounds_toArray, List.set_cons_zero, List.set_cons_succ])
  refine wpAnyH_take (i := 7) (v := ?_) rfl (by kernel_rfl) (by kernel_rfl) (by kernel_rfl) (fun _ _ _ h => h) (Or.inl ⟨by kernel_rfl, ?_⟩) (by assumption) ?_
  rotate_left
  · intro w hSw; (try dsimp only at hSw); go_simp; (try with_reducible rfl)
  (try simp only [Act.put, List.getElem_toArray, List.getElem_cons_zero, List.getElem_cons_succ, List.setIfInBounds_toArray, List.set_cons_zero, List.set_cons_succ])
  refine wpAnyH_take (i := 8) (v := ?_) rfl (by kernel_rfl) (by kernel_rfl) (by kernel_rfl) (fun _ _ _ h => h) (Or.inl ⟨by kernel_rfl, ?_⟩) (by assumption) ?_
  rotate_left
  · intro w hSw; (try dsimp only at hSw); go_simp; (try with_reducible rfl)
  (try simp only [Act.put, List.getElem_toArray, List.getElem_cons_zero, List.getElem_cons_succ, List.setIfInBounds_toArray, List.set_cons_zero, List.set_cons_succ])
  refine wpAnyH_take (i := 9) (v := ?_) rfl (by kernel_rfl) (by kernel_rfl) (by kernel_rfl) (fun _ _ _ h => h) (Or.inl ⟨by kernel_rfl, ?_⟩) (by assumption) ?_
  rotate_left
  · intro w hSw; (try dsimp only at hSw); go_simp; (try with_reducible rfl)
  (try simp only [Act.put, List.getElem_toArray, List.getElem_cons_zero, List.getElem_cons_succ, List.setIfInBounds_toArray, List.set_cons_zero, List.set_cons_succ])
  refine wpAnyH_take (i := 10) (v := ?_) rfl (by kernel_rfl) (by kernel_rfl) (by kernel_rfl) (fun _ _ _ h => h) (Or.inl ⟨by kernel_rfl, ?_⟩) (by assumption) ?_
  rotate_left
  · intro w hSw; (try dsimp only at hSw); go_simp; (try with_reducible rfl)
  (try simp only [Act.put, List.getElem_toArray, List.getElem_cons_zero, List.getElem_cons_succ, List.setIfInBounds_toArray, List.set_cons_zero, List.set_cons_succ])
  refine wpAnyH_take (i := 11) (v := ?_) rfl (by kernel_rfl) (by kernel_rfl) (by kernel_rfl) (fun _ _ _ h => h) (Or.inl ⟨by kernel_rfl, ?_⟩) (by assumption) ?_
  rotate_left
  · intro w hSw; (try dsimp only at hSw); go_simp; (try with_reducible rfl)
  (try simp only [Act.put, List.getElem_toArray, List.getElem_cons_zero, List.getElem_cons_succ, List.setIfInBounds_toArray, List.set_cons_zero, List.set_cons_succ])
  refine wpAnyH_take (i := 12) (v := ?_) rfl (by kernel_rfl) (by kernel_rfl) (by kernel_rfl) (fun _ _ _ h => h) (Or.inl ⟨by kernel_rfl, ?_⟩) (by assumption) ?_
  rotate_left
  · intro w hSw; (try dsimp only at hSw); go_simp; (try with_reducible rfl)
  (try simp only [Act.put, List.getElem_toArray, List.getElem_cons_zero, List.getElem_cons_succ, List.setIfInBounds_toArray, List.set_cons_zero, List.set_cons_succ])
  refine wpAnyH_ready (rs := [13]) (by kernel_rfl) (by simp) ?_
  refine AllReadyH.cons rfl (fun K hK => ?_) AllReadyH.nil
  go_simp
  go_at_call 25
  refine (three_b _).mono ?_
  rintro e x2 ⟨rfl, k2⟩
  replace k2 := Lib.hid (k1.out.trans k2)
  refine hK.out _ _ (HH.out _ k2.out) (fun hHeld2 => ?_)
  clear hK K
  (try simp only [Act.put, List.getElem_toArray, List.getElem_cons_zero, List.getElem_cons_succ, List.setIfInBounds_toArray, List.set_cons_zero, List.set_cons_succ])
  clear hHeld1
  refine wpAnyH_ready (rs := [14]) (by kernel_rfl) (by simp) ?_
  refine AllReadyH.cons rfl (fun K hK => ?_) AllReadyH.nil
  go_simp
  go_at_call 13
  refine (sameN3 ax none cx 0 _).mono ?_
  rintro e x3 ⟨rfl, k3⟩
  replace k3 := Lib.hid (k2.out.trans k3)
  refine hK.out _ _ (HH.out _ k3.out) (fun hHeld3 => ?_)
  clear hK K
  (try simp only [Act.put, List.getElem_toArray, List.getElem_cons_zero, List.getElem_cons_succ, List.setIfInBounds_toArray, List.set_cons_zero, List.set_cons_succ])
  clear hHeld2
  refine wpAnyH_take (i := 15) (v := ?_) rfl (by kernel_rfl) (by kernel_rfl) (by kernel_rfl) (fun _ _ _ h => h) (Or.inl ⟨by kernel_rfl, ?_⟩) (by assumption) ?_
  rotate_left
  · intro w hSw; (try dsimp only at hSw); go_simp; (try with_reducible rfl)
  (try simp only [Act.put, List.getElem_toArray, List.getElem_cons_zero, List.getElem_cons_succ, List.setIfInBounds_toArray, List.set_cons_zero, List.set_cons_succ])
  refine wpAnyH_take (i := 16) (v := ?_) rfl (by kernel_rfl) (by kernel_rfl) (by kernel_rfl) (fun _ _ _ h => h) (Or.inl ⟨by kernel_rfl, ?_⟩) (by assumption) ?_
  rotate_left
  · intro w hSw; (try dsimp only at hSw); go_simp; (try with_reducible rfl)
  (try simp only [Act.put, List.getElem_toArray, List.getElem_cons_zero, List.getElem_cons_succ, List.setIfInBounds_toArray, List.set_cons_zero, List.set_cons_succ])
  refine wpAnyH_take (i := 17) (v := ?_) rfl (by kernel_rfl) (by kernel_rfl) (by kernel_rfl) (fun _ _ _ h => h) (Or.inl ⟨by kernel_rfl, ?_⟩) (by assumption) ?_
  rotate_left
  · intro w hSw; (try dsimp only at hSw); go_simp; (try with_reducible rfl)
  (try simp only [Act.put, List.getElem_toArray, List.getElem_cons_zero, List.getElem_cons_succ, List.setIfInBounds_toArray, List.set_cons_zero, List.set_cons_succ])
  refine wpAnyH_take (i := 18) (v := ?_) rfl (by kernel_rfl) (by kernel_rfl) (by kernel_rfl) (fun _ _ _ h => h) (Or.inl ⟨by kernel_rfl, ?_⟩) (by assumption) ?_
  rotate_left
  · intro w hSw; (try dsimp only at hSw); go_simp; (try with_reducible rfl)
  (try simp only [Act.put, List.getElem_toArray, List.getElem_cons_zero, List.getElem_cons_succ, List.setIfInBounds_toArray, List.set_cons_zero, List.set_cons_succ])
  refine wpAnyH_take (i := 19) (v := ?_) rfl (by kernel_rfl) (by kernel_rfl) (by kernel_rfl) (fun _ _ _ h => h) (Or.inl ⟨by kernel_rfl, ?_⟩) (by assumption) ?_
  rotate_left
  · intro w hSw; (try dsimp only at hSw); go_simp; (try with_reducible rfl)
  (try simp only [Act.put, List.getElem_toArray, List.getElem_cons_zero, List.getElem_cons_succ, List.setIfInBounds_toArray, List.set_cons_zero, List.set_cons_succ])
  refine wpAnyH_take (i := 20) (v := ?_) rfl (by kernel_rfl) (by kernel_rfl) (by kernel_rfl) (fun _ _ _ h => h) (Or.inl ⟨by kernel_rfl, ?_⟩) (by assumption) ?_
  rotate_left
  · intro w hSw; (try dsimp only at hSw); go_simp; (try with_reducible rfl)
  (try simp only [Act.put, List.getElem_toArray, List.getElem_cons_zero, List.getElem_cons_succ, List.setIfInBounds_toArray, List.set_cons_zero, List.set_cons_succ])
  refine wpAnyH_take (i := 21) (v := ?_) rfl (by kernel_rfl) (by kernel_rfl) (by kernel_rfl) (fun _ _ _ h => h) (Or.inl ⟨by kernel_rfl, ?_⟩) (by assumption) ?_
  rotate_left
  · intro w hSw; (try dsimp only at hSw); go_simp; (try with_reducible rfl)
  (try simp only [Act.put, List.getElem_toArray, List.getElem_cons_zero, List.getElem_cons_succ, List.setIfInBounds_toArray, List.set_cons_zero, List.set_cons_succ])
  refine wpAnyH_ready (rs := [22]) (by kernel_rfl) (by simp) ?_
  refine AllReadyH.cons rfl (fun K hK => ?_) AllReadyH.nil
  go_simp
  go_at_call 21
  refine (node_b 13 none 0 0 _).mono ?_
  rintro e x4 ⟨rfl, k4⟩
  replace k4 := Lib.hid (k3.out.trans k4)
  refine hK.out _ _ (HH.out _ k4.out) (fun hHeld4 => ?_)
  clear hK K
  (try simp only [Act.put, List.getElem_toArray, List.getElem_cons_zero, List.getElem_cons_succ, List.setIfInBounds_toArray, List.set_cons_zero, List.set_cons_succ])
  clear hHeld3
  refine wpAnyH_ready (rs := [23]) (by kernel_rfl) (by simp) ?_
  refine AllReadyH.cons rfl (fun K hK => ?_) AllReadyH.nil
  go_simp
  go_at_call 18
  refine (same_f _).mono ?_
  rintro e x5 ⟨rfl, k5⟩
  replace k5 := Lib.hid (k4.out.trans k5)
  refine hK.out _ _ (HH.out _ k5.out) (fun hHeld5 => ?_)
  clear hK K
  (try simp only [Act.put, List.getElem_toArray, List.getElem_cons_zero, List.getElem_cons_succ, List.setIfInBounds_toArray, List.set_cons_zero, List.set_cons_succ])
  clear hHeld4
  refine wpAnyH_take (i := 24) (v := ?_) rfl (by kernel_rfl) (by kernel_rfl) (by kernel_rfl) (fun _ _ _ h => h) (Or.inl ⟨by kernel_rfl, ?_⟩) (by assumption) ?_
  rotate_left
  · intro w hSw; (try dsimp only at hSw); go_simp; (try with_reducible rfl)
  (try simp only [Act.put, List.getElem_toArray, List.getElem_cons_zero, List.getElem_cons_succ, List.setIfInBounds_toArray, List.set_cons_zero, List.set_cons_succ])
  refine wpAnyH_take (i := 25) (v := ?_) rfl (by kernel_rfl) (by kernel_rfl) (by kernel_rfl) (fun _ _ _ h => h) (Or.inl ⟨by kernel_rfl, ?_⟩) (by assumption) ?_
  rotate_left
  · intro w hSw; (try dsimp only at hSw); go_simp; (try with_reducible rfl)
  (try simp only [Act.put, List.getElem_toArray, List.getElem_cons_zero, List.getElem_cons_succ, List.setIfInBounds_toArray, List.set_cons_zero, List.set_cons_succ])
  refine wpAnyH_take (i := 26) (v := ?_) rfl (by kernel_rfl) (by kernel_rfl) (by kernel_rfl) (fun _ _ _ h => h) (Or.inl ⟨by kernel_rfl, ?_⟩) (by assumption) ?_
  rotate_left
  · intro w hSw; (try dsimp only at hSw); go_simp; (try with_reducible rfl)
  (try simp only [Act.put, List.getElem_toArray, List.getElem_cons_zero, List.getElem_cons_succ, List.setIfInBounds_toArray, List.set_cons_zero, List.set_cons_succ])
  refine wpAnyH_take (i := 27) (v := ?_) rfl (by kernel_rfl) (by kernel_rfl) (by kernel_rfl) (fun _ _ _ h => h) (Or.inl ⟨by kernel_rfl, ?_⟩) (by assumption) ?_
  rotate_left
  · intro w hSw; (try dsimp only at hSw); go_simp; (try with_reducible rfl)
  (try simp only [Act.put, List.getElem_toArray, List.getElem_cons_zero, List.getElem_cons_succ, List.setIfInBounds_toArray, List.set_cons_zero, List.set_cons_succ])
  refine wpAnyH_take (i := 28) (v := ?_) rfl (by kernel_rfl) (by kernel_rfl) (by kernel_rfl) (fun _ _ _ h => h) (Or.inl ⟨by kernel_rfl, ?_⟩) (by assumption) ?_
  rotate_left
  · intro w hSw; (try dsimp only at hSw); go_simp; (try with_reducible rfl)
  (try simp only [Act.put, List.getElem_toArray, List.getElem_cons_zero, List.getElem_cons_succ, List.setIfInBounds_toArray, List.set_cons_zero, List.set_cons_succ])
  refine wpAnyH_ready (rs := [29]) (by kernel_rfl) (by simp) ?_
  refine AllReadyH.cons rfl (fun K hK => ?_) AllReadyH.nil
  go_simp
  go_at_call 18
  refine (same_t _).mono ?_
  rintro e x6 ⟨rfl, k6⟩
  replace k6 := Lib.hid (k5.out.trans k6)
  refine hK.out _ _ (HH.out _ k6.out) (fun hHeld6 => ?_)
  clear hK K
  (try simp only [Act.put, List.getElem_toArray, List.getElem_cons_zero, List.getElem_cons_succ, List.setIfInBounds_toArray, List.set_cons_zero, List.set_cons_succ])
  clear hHeld5
  refine wpAnyH_take (i := 30) (v := ?_) rfl (by kernel_rfl) (by kernel_rfl) (by kernel_rfl) (fun _ _ _ h => h) (Or.inl ⟨by kernel_rfl, ?_⟩) (by assumption) ?_
  rotate_left
  · intro w hSw; (try dsimp only at hSw); go_simp; (try with_reducible rfl)
  (try simp only [Act.put, List.getElem_toArray, List.getElem_cons_zero, List.getElem_cons_succ, List.setIfInBounds_toArray, List.set_cons_zero, List.set_cons_succ])
  refine wpAnyH_take (i := 31) (v := ?_) rfl (by kernel_rfl) (by kernel_rfl) (by kernel_rfl) (fun _ _ _ h => h) (Or.inl ⟨by kernel_rfl, ?_⟩) (by assumption) ?_
  rotate_left
  · intro w hSw; (try dsimp only at hSw); go_simp; (try with_reducible rfl)
  (try simp only [Act.put, List.getElem_toArray, List.getElem_cons_zero, List.getElem_cons_succ, List.setIfInBounds_toArray, List.set_cons_zero, List.set_cons_succ])
  refine wpAnyH_done (by kernel_rfl) ?_ _
  go_wp2_with fail
  go_ret
  exact ⟨rfl, K38.out.trans k6.out⟩

end Go.Proofs.YtgdmcdjkmgpkpaaDoor
