/- The chapter's examples of chain: known. -/
import Derived.Test.YtjfhfalhcmgaaaaChy
import Derived.OrdersHeld
import Derived.Deep.RegionHeld3
set_option linter.unusedSimpArgs false
set_option linter.unusedVariables false
set_option maxRecDepth 100000
namespace Go.Proofs.Ytjfhfalhcmgaaaa
open Go.ChangeShapes Go.WideShapes Go.ChangeAt Go.RowKit

set_option maxHeartbeats 32000000 in
theorem known_c (w : World) (haw : ∀ W, Calls Try.prog 10 #[] W fun e w' => e = .returned (.bool true) ∧ Kept W w') : Calls Try.prog 5 #[] w fun e w' => e = .returned (.bool true) ∧ Kept w w' := by
  have HAW := Lib.hid haw
  clear haw
  go_enter Try.func5, Try.ntmps5
  go_wp2_with fail
  refine (turns_c 5 _ (by omega)).mono ?_
  rintro e w3 ⟨⟨ta, tc, rfl, ow⟩, k3⟩
  rw [show turnsV 5 = [⟨true, ⟨#[67]⟩, 1⟩, ⟨true, ⟨#[68]⟩, 2⟩, ⟨true, ⟨#[67]⟩, 3⟩, ⟨true, ⟨#[68]⟩, 4⟩, ⟨true, ⟨#[67]⟩, 5⟩] from by kernel_rfl] at ow ⊢
  have HK := Lib.hid k3
  have HSU := Lib.hid (lys_kept (owns_lys ow (by decide)) (Kept.refl w3))
  clear ow k3
  have HC := Lib.hid (norms_c [⟨true, ⟨#[67]⟩, 1⟩, ⟨true, ⟨#[68]⟩, 2⟩, ⟨true, ⟨#[67]⟩, 3⟩, ⟨true, ⟨#[68]⟩, 4⟩, ⟨true, ⟨#[67]⟩, 5⟩] [⟨true, ⟨#[67]⟩, 1⟩, ⟨true, ⟨#[68]⟩, 2⟩, ⟨true, ⟨#[67]⟩, 3⟩, ⟨true, ⟨#[68]⟩, 4⟩, ⟨true, ⟨#[67]⟩, 5⟩] _ _ w3 HSU.out HSU.out (by decide))
  rw [show decide (Chn.norm ky [⟨true, ⟨#[67]⟩, 1⟩, ⟨true, ⟨#[68]⟩, 2⟩, ⟨true, ⟨#[67]⟩, 3⟩, ⟨true, ⟨#[68]⟩, 4⟩, ⟨true, ⟨#[67]⟩, 5⟩] = [⟨true, ⟨#[67]⟩, 1⟩, ⟨true, ⟨#[68]⟩, 2⟩, ⟨true, ⟨#[67]⟩, 3⟩, ⟨true, ⟨#[68]⟩, 4⟩, ⟨true, ⟨#[67]⟩, 5⟩]) = true from by kernel_rfl] at HC
  go_wp2_with fail
  refine HC.out.mono ?_
  rintro e w4 ⟨rfl, kw4⟩
  have HK := Lib.hid (HK.out.trans kw4)
  have HSU := Lib.hid (lys_kept HSU.out kw4)
  clear HC kw4
  have HC := Lib.hid (norms_c [] [] _ _ w4 Row.nil Row.nil (by decide))
  rw [show decide (Chn.norm ky [] = []) = true from by kernel_rfl] at HC
  go_wp2_with fail
  refine HC.out.mono ?_
  rintro e w5 ⟨rfl, kw5⟩
  have HK := Lib.hid (HK.out.trans kw5)
  have HSU := Lib.hid (lys_kept HSU.out kw5)
  clear HC kw5
  go_wp2_with fail
  refine (out_c _ _ _).mono ?_
  rintro e w6 ⟨rfl, kw6⟩
  have HK := Lib.hid (HK.out.trans kw6)
  have HSU := Lib.hid (lys_kept HSU.out kw6)
  clear kw6
  go_wp2_with fail
  refine (out_c _ _ _).mono ?_
  rintro e w7 ⟨rfl, kw7⟩
  have HK := Lib.hid (HK.out.trans kw7)
  have HSU := Lib.hid (lys_kept HSU.out kw7)
  clear kw7
  obtain ⟨w8, hw8, HS9, kw8⟩ := prepB [⟨true, ⟨#[67]⟩, 1⟩, ⟨true, ⟨#[67]⟩, 3⟩] (by decide) w7
  have HWw8 := Lib.hid (show w7.alloc (.cells #[.bool true, .string ⟨#[67]⟩, .int .i64 1, .bool true, .string ⟨#[67]⟩, .int .i64 3] 24) = w8 from hw8)
  have HK := Lib.hid (HK.out.trans kw8.out)
  have HSU := Lib.hid (lys_kept HSU.out kw8.out)
  clear hw8 kw8
  go_wp2_with fail
  rw [HWw8.out]
  refine (out_c _ _ _).mono ?_
  rintro e w9 ⟨rfl, kw9⟩
  have HK := Lib.hid (HK.out.trans kw9)
  have HSU := Lib.hid (lys_kept HSU.out kw9)
  have HS9 := Lib.hid (lys_kept HS9.out kw9)
  clear kw9
  have HC := Lib.hid (add_c [⟨true, ⟨#[67]⟩, 1⟩, ⟨true, ⟨#[67]⟩, 3⟩] ⟨true, ⟨#[67]⟩, 4⟩ _ _ w9 HS9.out (by decide) (by decide))
  rw [show Chn.norm ky ([⟨true, ⟨#[67]⟩, 1⟩, ⟨true, ⟨#[67]⟩, 3⟩] ++ [⟨true, ⟨#[67]⟩, 4⟩]) = [⟨true, ⟨#[67]⟩, 1⟩, ⟨true, ⟨#[67]⟩, 4⟩] from by kernel_rfl] at HC
  go_wp2_with fail
  refine HC.out.mono ?_
  rintro e w10 ⟨⟨aw10, cw10, rfl, ow10⟩, kw10⟩
  have HK := Lib.hid (HK.out.trans kw10)
  have HSU := Lib.hid (lys_kept HSU.out kw10)
  have HS9 := Lib.hid (lys_kept HS9.out kw10)
  have HS11 := Lib.hid (owns_lys ow10 (by decide))
  clear HC kw10 ow10
  go_wp2_with fail
  refine (out_c _ _ _).mono ?_
  rintro e w11 ⟨rfl, kw11⟩
  have HK := Lib.hid (HK.out.trans kw11)
  have HSU := Lib.hid (lys_kept HSU.out kw11)
  have HS9 := Lib.hid (lys_kept HS9.out kw11)
  have HS11 := Lib.hid (lys_kept HS11.out kw11)
  clear kw11
  go_wp2_with fail
  refine (out_c _ _ _).mono ?_
  rintro e w12 ⟨rfl, kw12⟩
  have HK := Lib.hid (HK.out.trans kw12)
  have HSU := Lib.hid (lys_kept HSU.out kw12)
  have HS9 := Lib.hid (lys_kept HS9.out kw12)
  have HS11 := Lib.hid (lys_kept HS11.out kw12)
  clear kw12
  obtain ⟨w13, hw13, HS14, kw13⟩ := prepB [⟨true, ⟨#[67]⟩, 1⟩, ⟨true, ⟨#[67]⟩, 4⟩] (by decide) w12
  have HWw13 := Lib.hid (show w12.alloc (.cells #[.bool true, .string ⟨#[67]⟩, .int .i64 1, .bool true, .string ⟨#[67]⟩, .int .i64 4] 24) = w13 from hw13)
  have HK := Lib.hid (HK.out.trans kw13.out)
  have HSU := Lib.hid (lys_kept HSU.out kw13.out)
  have HS9 := Lib.hid (lys_kept HS9.out kw13.out)
  have HS11 := Lib.hid (lys_kept HS11.out kw13.out)
  clear hw13 kw13
  have HC := Lib.hid (sameL_c [⟨true, ⟨#[67]⟩, 1⟩, ⟨true, ⟨#[67]⟩, 4⟩] [⟨true, ⟨#[67]⟩, 1⟩, ⟨true, ⟨#[67]⟩, 4⟩] _ _ w13 HS11.out HS14.out)
  rw [show decide (([⟨true, ⟨#[67]⟩, 1⟩, ⟨true, ⟨#[67]⟩, 4⟩] : List Ly) = [⟨true, ⟨#[67]⟩, 1⟩, ⟨true, ⟨#[67]⟩, 4⟩]) = true from by kernel_rfl] at HC
  go_wp2_with fail
  rw [HWw13.out]
  refine HC.out.mono ?_
  rintro e w14 ⟨rfl, kw14⟩
  have HK := Lib.hid (HK.out.trans kw14)
  have HSU := Lib.hid (lys_kept HSU.out kw14)
  have HS9 := Lib.hid (lys_kept HS9.out kw14)
  have HS11 := Lib.hid (lys_kept HS11.out kw14)
  have HS14 := Lib.hid (lys_kept HS14.out kw14)
  clear HC kw14
  go_wp2_with fail
  refine (out_c _ _ _).mono ?_
  rintro e w15 ⟨rfl, kw15⟩
  have HK := Lib.hid (HK.out.trans kw15)
  have HSU := Lib.hid (lys_kept HSU.out kw15)
  have HS9 := Lib.hid (lys_kept HS9.out kw15)
  have HS11 := Lib.hid (lys_kept HS11.out kw15)
  have HS14 := Lib.hid (lys_kept HS14.out kw15)
  clear kw15
  obtain ⟨w16, hw16, HS19, kw16⟩ := prepB [⟨true, ⟨#[67]⟩, 1⟩] (by decide) w15
  have HWw16 := Lib.hid (show w15.alloc (.cells #[.bool true, .string ⟨#[67]⟩, .int .i64 1] 24) = w16 from hw16)
  have HK := Lib.hid (HK.out.trans kw16.out)
  have HSU := Lib.hid (lys_kept HSU.out kw16.out)
  have HS9 := Lib.hid (lys_kept HS9.out kw16.out)
  have HS11 := Lib.hid (lys_kept HS11.out kw16.out)
  have HS14 := Lib.hid (lys_kept HS14.out kw16.out)
  clear hw16 kw16
  go_wp2_with fail
  rw [HWw16.out]
  refine (out_c _ _ _).mono ?_
  rintro e w17 ⟨rfl, kw17⟩
  have HK := Lib.hid (HK.out.trans kw17)
  have HSU := Lib.hid (lys_kept HSU.out kw17)
  have HS9 := Lib.hid (lys_kept HS9.out kw17)
  have HS11 := Lib.hid (lys_kept HS11.out kw17)
  have HS14 := Lib.hid (lys_kept HS14.out kw17)
  have HS19 := Lib.hid (lys_kept HS19.out kw17)
  clear kw17
  go_wp2_with fail
  refine (in_c _ _ _).mono ?_
  rintro e w18 ⟨rfl, kw18⟩
  have HK := Lib.hid (HK.out.trans kw18)
  have HSU := Lib.hid (lys_kept HSU.out kw18)
  have HS9 := Lib.hid (lys_kept HS9.out kw18)
  have HS11 := Lib.hid (lys_kept HS11.out kw18)
  have HS14 := Lib.hid (lys_kept HS14.out kw18)
  have HS19 := Lib.hid (lys_kept HS19.out kw18)
  clear kw18
  obtain ⟨w19, hw19, HS22, kw19⟩ := prepB [⟨true, ⟨#[67]⟩, 2⟩, ⟨false, ⟨#[67]⟩, 3⟩] (by decide) w18
  have HWw19 := Lib.hid (show w18.alloc (.cells #[.bool true, .string ⟨#[67]⟩, .int .i64 2, .bool false, .string ⟨#[67]⟩, .int .i64 3] 24) = w19 from hw19)
  have HK := Lib.hid (HK.out.trans kw19.out)
  have HSU := Lib.hid (lys_kept HSU.out kw19.out)
  have HS9 := Lib.hid (lys_kept HS9.out kw19.out)
  have HS11 := Lib.hid (lys_kept HS11.out kw19.out)
  have HS14 := Lib.hid (lys_kept HS14.out kw19.out)
  have HS19 := Lib.hid (lys_kept HS19.out kw19.out)
  clear hw19 kw19
  have HC := Lib.hid (merge_c [⟨true, ⟨#[67]⟩, 1⟩] [⟨true, ⟨#[67]⟩, 2⟩, ⟨false, ⟨#[67]⟩, 3⟩] _ _ _ _ w19 HS19.out HS22.out (by decide) (by decide))
  rw [show Chn.norm ky ([⟨true, ⟨#[67]⟩, 1⟩] ++ [⟨true, ⟨#[67]⟩, 2⟩, ⟨false, ⟨#[67]⟩, 3⟩]) = [⟨true, ⟨#[67]⟩, 1⟩, ⟨true, ⟨#[67]⟩, 2⟩, ⟨false, ⟨#[67]⟩, 3⟩] from by kernel_rfl] at HC
  go_wp2_with fail
  rw [HWw19.out]
  refine HC.out.mono ?_
  rintro e w20 ⟨⟨aw20, cw20, rfl, ow20⟩, kw20⟩
  have HK := Lib.hid (HK.out.trans kw20)
  have HSU := Lib.hid (lys_kept HSU.out kw20)
  have HS9 := Lib.hid (lys_kept HS9.out kw20)
  have HS11 := Lib.hid (lys_kept HS11.out kw20)
  have HS14 := Lib.hid (lys_kept HS14.out kw20)
  have HS19 := Lib.hid (lys_kept HS19.out kw20)
  have HS22 := Lib.hid (lys_kept HS22.out kw20)
  have HS23 := Lib.hid (owns_lys ow20 (by decide))
  clear HC kw20 ow20
  go_wp2_with fail
  refine (out_c _ _ _).mono ?_
  rintro e w21 ⟨rfl, kw21⟩
  have HK := Lib.hid (HK.out.trans kw21)
  have HSU := Lib.hid (lys_kept HSU.out kw21)
  have HS9 := Lib.hid (lys_kept HS9.out kw21)
  have HS11 := Lib.hid (lys_kept HS11.out kw21)
  have HS14 := Lib.hid (lys_kept HS14.out kw21)
  have HS19 := Lib.hid (lys_kept HS19.out kw21)
  have HS22 := Lib.hid (lys_kept HS22.out kw21)
  have HS23 := Lib.hid (lys_kept HS23.out kw21)
  clear kw21
  go_wp2_with fail
  refine (out_c _ _ _).mono ?_
  rintro e w22 ⟨rfl, kw22⟩
  have HK := Lib.hid (HK.out.trans kw22)
  have HSU := Lib.hid (lys_kept HSU.out kw22)
  have HS9 := Lib.hid (lys_kept HS9.out kw22)
  have HS11 := Lib.hid (lys_kept HS11.out kw22)
  have HS14 := Lib.hid (lys_kept HS14.out kw22)
  have HS19 := Lib.hid (lys_kept HS19.out kw22)
  have HS22 := Lib.hid (lys_kept HS22.out kw22)
  have HS23 := Lib.hid (lys_kept HS23.out kw22)
  clear kw22
  go_wp2_with fail
  refine (in_c _ _ _).mono ?_
  rintro e w23 ⟨rfl, kw23⟩
  have HK := Lib.hid (HK.out.trans kw23)
  have HSU := Lib.hid (lys_kept HSU.out kw23)
  have HS9 := Lib.hid (lys_kept HS9.out kw23)
  have HS11 := Lib.hid (lys_kept HS11.out kw23)
  have HS14 := Lib.hid (lys_kept HS14.out kw23)
  have HS19 := Lib.hid (lys_kept HS19.out kw23)
  have HS22 := Lib.hid (lys_kept HS22.out kw23)
  have HS23 := Lib.hid (lys_kept HS23.out kw23)
  clear kw23
  obtain ⟨w24, hw24, HS27, kw24⟩ := prepB [⟨true, ⟨#[67]⟩, 1⟩, ⟨true, ⟨#[67]⟩, 2⟩, ⟨false, ⟨#[67]⟩, 3⟩] (by decide) w23
  have HWw24 := Lib.hid (show w23.alloc (.cells #[.bool true, .string ⟨#[67]⟩, .int .i64 1, .bool true, .string ⟨#[67]⟩, .int .i64 2, .bool false, .string ⟨#[67]⟩, .int .i64 3] 24) = w24 from hw24)
  have HK := Lib.hid (HK.out.trans kw24.out)
  have HSU := Lib.hid (lys_kept HSU.out kw24.out)
  have HS9 := Lib.hid (lys_kept HS9.out kw24.out)
  have HS11 := Lib.hid (lys_kept HS11.out kw24.out)
  have HS14 := Lib.hid (lys_kept HS14.out kw24.out)
  have HS19 := Lib.hid (lys_kept HS19.out kw24.out)
  have HS22 := Lib.hid (lys_kept HS22.out kw24.out)
  have HS23 := Lib.hid (lys_kept HS23.out kw24.out)
  clear hw24 kw24
  have HC := Lib.hid (sameL_c [⟨true, ⟨#[67]⟩, 1⟩, ⟨true, ⟨#[67]⟩, 2⟩, ⟨false, ⟨#[67]⟩, 3⟩] [⟨true, ⟨#[67]⟩, 1⟩, ⟨true, ⟨#[67]⟩, 2⟩, ⟨false, ⟨#[67]⟩, 3⟩] _ _ w24 HS23.out HS27.out)
  rw [show decide (([⟨true, ⟨#[67]⟩, 1⟩, ⟨true, ⟨#[67]⟩, 2⟩, ⟨false, ⟨#[67]⟩, 3⟩] : List Ly) = [⟨true, ⟨#[67]⟩, 1⟩, ⟨true, ⟨#[67]⟩, 2⟩, ⟨false, ⟨#[67]⟩, 3⟩]) = true from by kernel_rfl] at HC
  go_wp2_with fail
  rw [HWw24.out]
  refine HC.out.mono ?_
  rintro e w25 ⟨rfl, kw25⟩
  have HK := Lib.hid (HK.out.trans kw25)
  have HSU := Lib.hid (lys_kept HSU.out kw25)
  have HS9 := Lib.hid (lys_kept HS9.out kw25)
  have HS11 := Lib.hid (lys_kept HS11.out kw25)
  have HS14 := Lib.hid (lys_kept HS14.out kw25)
  have HS19 := Lib.hid (lys_kept HS19.out kw25)
  have HS22 := Lib.hid (lys_kept HS22.out kw25)
  have HS23 := Lib.hid (lys_kept HS23.out kw25)
  have HS27 := Lib.hid (lys_kept HS27.out kw25)
  clear HC kw25
  have HC := Lib.hid (seen_c ⟨#[88]⟩ [] _ w25 Row.nil)
  rw [show seenV ⟨#[88]⟩ [] = ⟨#[88]⟩ from by kernel_rfl] at HC
  go_wp2_with fail
  refine HC.out.mono ?_
  rintro e w26 ⟨rfl, hw26⟩
  subst hw26
  clear HC
  go_wp2_with fail
  refine (out_c _ _ _).mono ?_
  rintro e w27 ⟨rfl, kw27⟩
  have HK := Lib.hid (HK.out.trans kw27)
  clear kw27
  go_wp2_with fail
  refine (in_c _ _ _).mono ?_
  rintro e w28 ⟨rfl, kw28⟩
  have HK := Lib.hid (HK.out.trans kw28)
  clear kw28
  obtain ⟨w29, hw29, HS35, kw29⟩ := prepB [⟨true, ⟨#[67]⟩, 1⟩, ⟨false, ⟨#[68]⟩, 2⟩] (by decide) w28
  have HWw29 := Lib.hid (show w28.alloc (.cells #[.bool true, .string ⟨#[67]⟩, .int .i64 1, .bool false, .string ⟨#[68]⟩, .int .i64 2] 24) = w29 from hw29)
  have HK := Lib.hid (HK.out.trans kw29.out)
  clear hw29 kw29
  have HC := Lib.hid (seen_c ⟨#[88]⟩ [⟨true, ⟨#[67]⟩, 1⟩, ⟨false, ⟨#[68]⟩, 2⟩] _ w29 HS35.out)
  rw [show seenV ⟨#[88]⟩ [⟨true, ⟨#[67]⟩, 1⟩, ⟨false, ⟨#[68]⟩, 2⟩] = ⟨#[68]⟩ from by kernel_rfl] at HC
  go_wp2_with fail
  rw [HWw29.out]
  refine HC.out.mono ?_
  rintro e w30 ⟨rfl, hw30⟩
  subst hw30
  clear HC
  go_wp2_with fail
  refine (out_c _ _ _).mono ?_
  rintro e w31 ⟨rfl, kw31⟩
  have HK := Lib.hid (HK.out.trans kw31)
  have HS35 := Lib.hid (lys_kept HS35.out kw31)
  clear kw31
  go_wp2_with fail
  refine (in_c _ _ _).mono ?_
  rintro e w32 ⟨rfl, kw32⟩
  have HK := Lib.hid (HK.out.trans kw32)
  have HS35 := Lib.hid (lys_kept HS35.out kw32)
  clear kw32
  go_wp2_with fail
  refine (out_c _ _ _).mono ?_
  rintro e w33 ⟨rfl, kw33⟩
  have HK := Lib.hid (HK.out.trans kw33)
  have HS35 := Lib.hid (lys_kept HS35.out kw33)
  clear kw33
  obtain ⟨w34, hw34, HS43, kw34⟩ := prepB [⟨true, ⟨#[67]⟩, 1⟩, ⟨false, ⟨#[88]⟩, 2⟩, ⟨true, ⟨#[67]⟩, 3⟩] (by decide) w33
  have HWw34 := Lib.hid (show w33.alloc (.cells #[.bool true, .string ⟨#[67]⟩, .int .i64 1, .bool false, .string ⟨#[88]⟩, .int .i64 2, .bool true, .string ⟨#[67]⟩, .int .i64 3] 24) = w34 from hw34)
  have HK := Lib.hid (HK.out.trans kw34.out)
  have HS35 := Lib.hid (lys_kept HS35.out kw34.out)
  clear hw34 kw34
  have HC := Lib.hid (classes_c ⟨#[88]⟩ [⟨true, ⟨#[67]⟩, 1⟩, ⟨false, ⟨#[88]⟩, 2⟩, ⟨true, ⟨#[67]⟩, 3⟩] _ w34 HS43.out (by decide) (by decide))
  rw [show clsL ⟨#[88]⟩ [⟨true, ⟨#[67]⟩, 1⟩, ⟨false, ⟨#[88]⟩, 2⟩, ⟨true, ⟨#[67]⟩, 3⟩] = [⟨#[88]⟩, ⟨#[67]⟩] from by kernel_rfl] at HC
  go_wp2_with fail
  rw [HWw34.out]
  refine HC.out.mono ?_
  rintro e w35 ⟨⟨aw35, cw35, rfl, ow35⟩, kw35⟩
  have HK := Lib.hid (HK.out.trans kw35)
  have HS35 := Lib.hid (lys_kept HS35.out kw35)
  have HS43 := Lib.hid (lys_kept HS43.out kw35)
  have HT44 := Lib.hid (owns_txs ow35)
  clear HC kw35 ow35
  obtain ⟨w36, hw36, HT45, kw36⟩ := prepT [⟨#[88]⟩, ⟨#[67]⟩] (by decide) w35
  have HWw36 := Lib.hid (show w35.alloc (.cells #[.string ⟨#[88]⟩, .string ⟨#[67]⟩] 9) = w36 from hw36)
  have HK := Lib.hid (HK.out.trans kw36.out)
  have HS35 := Lib.hid (lys_kept HS35.out kw36.out)
  have HS43 := Lib.hid (lys_kept HS43.out kw36.out)
  have HT44 := Lib.hid (txs_kept HT44.out kw36.out)
  clear hw36 kw36
  have HC := Lib.hid (sameT_c [⟨#[88]⟩, ⟨#[67]⟩] [⟨#[88]⟩, ⟨#[67]⟩] _ _ w36 HT44.out HT45.out)
  rw [show decide (([⟨#[88]⟩, ⟨#[67]⟩] : List ByteArray) = [⟨#[88]⟩, ⟨#[67]⟩]) = true from by kernel_rfl] at HC
  go_wp2_with fail
  rw [HWw36.out]
  refine HC.out.mono ?_
  rintro e w37 ⟨rfl, kw37⟩
  have HK := Lib.hid (HK.out.trans kw37)
  have HS35 := Lib.hid (lys_kept HS35.out kw37)
  have HS43 := Lib.hid (lys_kept HS43.out kw37)
  have HT44 := Lib.hid (txs_kept HT44.out kw37)
  have HT45 := Lib.hid (txs_kept HT45.out kw37)
  clear HC kw37
  have HC := Lib.hid (bound_c 0 w37 (by omega) (by omega))
  rw [show bndV 0 = (0, 0) from by kernel_rfl] at HC
  go_wp2_with fail
  refine HC.out.mono ?_
  rintro e w38 ⟨rfl, hw38⟩
  subst hw38
  clear HC
  have HC := Lib.hid (bound_c 41 w38 (by omega) (by omega))
  rw [show bndV 41 = (0, 3) from by kernel_rfl] at HC
  go_wp2_with fail
  refine HC.out.mono ?_
  rintro e w39 ⟨rfl, hw39⟩
  subst hw39
  clear HC
  go_wp2_with fail
  refine (HAW.out _).mono ?_
  rintro e w40 ⟨rfl, kw40⟩
  have HK := Lib.hid (HK.out.trans kw40)
  clear kw40
  go_wp2_with fail
  go_ret
  exact ⟨rfl, HK.out⟩

theorem known_cc (w : World) : Calls Try.prog 5 #[] w fun e w' => e = .returned (.bool true) ∧ Kept w w' := known_c w awake_c

end Go.Proofs.Ytjfhfalhcmgaaaa
