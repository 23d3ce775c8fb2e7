/- OpersKnown: the chapter's examples. -/
import Derived.Test.YtcaailiijmjdlaaGreatDoorZwb
import Derived.Test.YtcaailiijmjdlaaGreatDoorZvg
import Derived.Test.YtcaailiijmjdlaaGreatDoorZvh
import Derived.Test.YtcaailiijmjdlaaGreatDoorZwd
set_option linter.unusedSimpArgs false
set_option linter.unusedVariables false
set_option maxRecDepth 100000
namespace Go.Proofs.YtcaailiijmjdlaaGreatDoor
open Go.ChangeShapes Go.WideShapes Go.ChangeAt Go.RowKit Flo
attribute [local go_sem] Oper.semAt_some
open Zp (V e0 dy tI tR tB tS vI vR vB vS sameV showV oNot oSub cLen unD convD)

theorem okB (n : Int) : V.okM ⟨3, n, 0, e0⟩ := ⟨by show (0 : Nat) < _; decide, by show (0 : Nat) ≤ _; decide⟩

set_option maxHeartbeats 16000000 in
theorem lknown_c (w : World) (hT : Tb w) (hTab : Tab w) : Calls Tryz.prog 5 #[] w fun e w' => e = .returned (.bool true) ∧ Kept w w' := by
  have HT := Lib.hid hT
  have HTAB := Lib.hid hTab
  have HK := Lib.hid (Kept.refl w)
  have T1 := Lib.hid (fun W (h : Tb W) => ltakes_c ⟨#[43]⟩ ⟨#[63]⟩ ⟨#[115, 116, 114]⟩ ⟨#[115, 116, 114]⟩ ⟨#[115, 116, 114]⟩ false (smallL (by decide)) (smallL (by decide)) (smallL (by decide)) W h (by kernel_rfl))
  have T2 := Lib.hid (fun W (h : Tb W) => ltakes_c ⟨#[61, 61]⟩ ⟨#[65]⟩ ⟨#[105, 110, 116]⟩ ⟨#[]⟩ ⟨#[98, 111, 111, 108]⟩ false (smallL (by decide)) (smallL (by decide)) (smallL (by decide)) W h (by kernel_rfl))
  have T3 := Lib.hid (fun W (h : Tb W) => ltakes_c ⟨#[38, 38]⟩ ⟨#[63]⟩ ⟨#[98, 111, 111, 108]⟩ ⟨#[98, 111, 111, 108]⟩ ⟨#[98, 111, 111, 108]⟩ false (smallL (by decide)) (smallL (by decide)) (smallL (by decide)) W h (by kernel_rfl))
  have T4 := Lib.hid (fun W (h : Tb W) => lrefuses_c ⟨#[94]⟩ ⟨#[105, 110, 116]⟩ ⟨#[105, 110, 116]⟩ 2 (smallL (by decide)) (smallL (by decide)) (smallL (by decide)) W h (by kernel_rfl))
  obtain ⟨d1, hd1⟩ : ∃ d, doBV ⟨#[47]⟩ (vI 1) (vI 0) = d := ⟨_, rfl⟩
  have F1a := Lib.hid (show d1.trap = 2 by rw [← hd1]; kernel_rfl)
  have F1b := Lib.hid (show d1.err = 0 by rw [← hd1]; kernel_rfl)
  have R1 := Lib.hid (show ∀ W, Tb W → Calls Tryz.prog 19 #[.string ⟨#[47]⟩, V.p (vI 1), V.p (vI 0)] W fun e w' => e = .returned (d1).val ∧ Kept W w' by intro W h; rw [← hd1]; exact zdo_c ⟨#[47]⟩ (by decide) _ _ (okI _) (okI _) none none 0 0 0 0 W h)
  obtain ⟨d2, hd2⟩ : ∃ d, doBV ⟨#[43]⟩ (vI 1) (vS ⟨#[97]⟩) = d := ⟨_, rfl⟩
  have F2a := Lib.hid (show d2.err = 7 by rw [← hd2]; kernel_rfl)
  have R2 := Lib.hid (show ∀ W, Tb W → Calls Tryz.prog 19 #[.string ⟨#[43]⟩, V.p (vI 1), V.p (vS ⟨#[97]⟩)] W fun e w' => e = .returned (d2).val ∧ Kept W w' by intro W h; rw [← hd2]; exact zdo_c ⟨#[43]⟩ (by decide) _ _ (okI _) (okS (by decide)) none none 0 0 0 0 W h)
  obtain ⟨d3, hd3⟩ : ∃ d, doUV (unD ⟨#[45]⟩) ⟨#[45]⟩ (vI (-9223372036854775808)) = d := ⟨_, rfl⟩
  have F3a := Lib.hid (show d3.err = 0 by rw [← hd3]; kernel_rfl)
  have F3b := Lib.hid (show d3.v.n = -9223372036854775808 by rw [← hd3]; kernel_rfl)
  have R3 := Lib.hid (show ∀ W, Tb W → Calls Tryz.prog 21 #[.string ⟨#[45]⟩, V.p (vI (-9223372036854775808))] W fun e w' => e = .returned (.tuple #[(d3).v.p, .int .i64 (d3).err]) ∧ Kept W w' by intro W h; rw [← hd3]; exact zturn_c ⟨#[45]⟩ (by decide) _ (okI _) none 0 0 W h)
  obtain ⟨d4, hd4⟩ : ∃ d, doUV (unD ⟨#[33]⟩) ⟨#[33]⟩ (⟨3, 1, 0, e0⟩) = d := ⟨_, rfl⟩
  have F4a := Lib.hid (show d4.err = 0 by rw [← hd4]; kernel_rfl)
  have F4b := Lib.hid (show sameV d4.v ⟨3, 0, 0, e0⟩ = true by rw [← hd4]; kernel_rfl)
  have R4 := Lib.hid (show ∀ W, Tb W → Calls Tryz.prog 21 #[.string ⟨#[33]⟩, V.p (⟨3, 1, 0, e0⟩)] W fun e w' => e = .returned (.tuple #[(d4).v.p, .int .i64 (d4).err]) ∧ Kept W w' by intro W h; rw [← hd4]; exact zturn_c ⟨#[33]⟩ (by decide) _ (okB _) none 0 0 W h)
  obtain ⟨d5, hd5⟩ : ∃ d, doUV (convD ⟨#[105, 110, 116]⟩) ⟨#[105, 110, 116]⟩ (vR 9221120237041090560) = d := ⟨_, rfl⟩
  have F5a := Lib.hid (show d5.trap = 5 by rw [← hd5]; kernel_rfl)
  have F5b := Lib.hid (show d5.err = 0 by rw [← hd5]; kernel_rfl)
  have R5 := Lib.hid (show ∀ W, Tb W → Calls Tryz.prog 23 #[.string ⟨#[105, 110, 116]⟩, V.p (vR 9221120237041090560)] W fun e w' => e = .returned (d5).val ∧ Kept W w' by intro W h; rw [← hd5]; exact zchange_c ⟨#[105, 110, 116]⟩ (by decide) _ (okR (by decide)) none 0 0 W h)
  obtain ⟨d6, hd6⟩ : ∃ d, doUV (convD ⟨#[114, 101, 97, 108]⟩) ⟨#[114, 101, 97, 108]⟩ (vI 1) = d := ⟨_, rfl⟩
  have F6a := Lib.hid (show d6.err = 0 by rw [← hd6]; kernel_rfl)
  have F6b := Lib.hid (show sameV d6.v (vR 4607182418800017408) = true by rw [← hd6]; kernel_rfl)
  have F6c := Lib.hid (show showV d6.v = ⟨#[51, 102, 102, 48, 48, 48, 48, 48, 48, 48, 48, 48, 48, 48, 48, 48]⟩ by rw [← hd6]; kernel_rfl)
  have R6 := Lib.hid (show ∀ W, Tb W → Calls Tryz.prog 23 #[.string ⟨#[114, 101, 97, 108]⟩, V.p (vI 1)] W fun e w' => e = .returned (d6).val ∧ Kept W w' by intro W h; rw [← hd6]; exact zchange_c ⟨#[114, 101, 97, 108]⟩ (by decide) _ (okI _) none 0 0 W h)
  obtain ⟨d7, hd7⟩ : ∃ d, doUV (convD ⟨#[108, 101, 110]⟩) ⟨#[108, 101, 110]⟩ (vS ⟨#[97, 98]⟩) = d := ⟨_, rfl⟩
  have F7a := Lib.hid (show d7.err = 0 by rw [← hd7]; kernel_rfl)
  have F7b := Lib.hid (show sameV d7.v (vI 2) = true by rw [← hd7]; kernel_rfl)
  have R7 := Lib.hid (show ∀ W, Tb W → Calls Tryz.prog 23 #[.string ⟨#[108, 101, 110]⟩, V.p (vS ⟨#[97, 98]⟩)] W fun e w' => e = .returned (d7).val ∧ Kept W w' by intro W h; rw [← hd7]; exact zchange_c ⟨#[108, 101, 110]⟩ (by decide) _ (okS (by decide)) none 0 0 W h)
  have OK6 := Lib.hid (show V.ok d6.v by rw [show d6.v = vR 4607182418800017408 by rw [← hd6]; kernel_rfl]; exact ⟨⟨by show (-9223372036854775808 : Int) ≤ 0; decide, by show (0 : Int) ≤ _; decide⟩, by show (4607182418800017408 : Nat) < _; decide, by show (0 : Nat) ≤ _; decide⟩)
  obtain ⟨z8, hz8⟩ : ∃ z, zeroV ⟨#[65]⟩ = z := ⟨_, rfl⟩
  have F8 := Lib.hid (show z8.tag = 6 by rw [← hz8]; kernel_rfl)
  have R8 := Lib.hid (show ∀ W, Tb W → Calls Tryz.prog 15 #[.string ⟨#[65]⟩] W fun e w' => e = .returned (.tuple #[z8.p, .int .i64 0]) ∧ Kept W w' by
    intro W h
    have := zzero_c ⟨#[65]⟩ (by decide) W h
    rw [hz8, show zeroE ⟨#[65]⟩ = 0 by kernel_rfl] at this
    exact this)
  have D1 := Lib.hid (fun W (h : Tb W) => ldoes_c ⟨#[60]⟩ (by decide) (vR 0) (vR 9223372036854775808) ⟨3, 0, 0, e0⟩ (okR (by decide)) (okR (by decide)) none none 0 0 0 0 W h (vB false) (by kernel_rfl) (.inl (by decide)))
  have D2 := Lib.hid (fun W (h : Tb W) => ldoes_c ⟨#[61, 61]⟩ (by decide) (vR 9221120237041090560) (vR 9221120237041090560) ⟨3, 0, 0, e0⟩ (okR (by decide)) (okR (by decide)) none none 0 0 0 0 W h (vB false) (by kernel_rfl) (.inl (by decide)))
  clear hT hTab hd1 hd2 hd3 hd4 hd5 hd6 hd7 hz8
  go_enter Tryz.func5, Tryz.ntmps5
  go_wp2_with fail
  refine (T1.out w (HT.out.kept HK.out)).mono ?_
  rintro e u0 ⟨rfl, k⟩
  replace HK := Lib.hid (HK.out.trans k)
  clear k
  go_wp2_with fail
  refine (T2.out u0 (HT.out.kept HK.out)).mono ?_
  rintro e u1 ⟨rfl, k⟩
  replace HK := Lib.hid (HK.out.trans k)
  clear k
  go_wp2_with fail
  refine (T3.out u1 (HT.out.kept HK.out)).mono ?_
  rintro e u2 ⟨rfl, k⟩
  replace HK := Lib.hid (HK.out.trans k)
  clear k
  go_wp2_with fail
  refine (T4.out u2 (HT.out.kept HK.out)).mono ?_
  rintro e u3 ⟨rfl, k⟩
  replace HK := Lib.hid (HK.out.trans k)
  clear k
  go_wp2_with fail
  refine (lwhole_c 1 u3).mono ?_
  rintro e u4 ⟨rfl, k⟩
  replace HK := Lib.hid (HK.out.trans k)
  clear k
  go_wp2_with fail
  refine (lwhole_c 0 u4).mono ?_
  rintro e u5 ⟨rfl, k⟩
  replace HK := Lib.hid (HK.out.trans k)
  clear k
  go_wp2_with fail
  refine (R1.out u5 (HT.out.kept HK.out)).mono ?_
  rintro e u6 ⟨rfl, k⟩
  replace HK := Lib.hid (HK.out.trans k)
  clear k
  obtain ⟨X7, hX⟩ : ∃ W, u6.alloc (.cells #[.int .i64 d1.v.tag, .int .i64 d1.v.n, .int .u64 (d1.v.bits : Int), .string d1.v.s, .slice none 0 0] vT) = W := ⟨_, rfl⟩
  obtain ⟨k, b', _⟩ := vnew hX
  have HX7 := Lib.hid hX
  replace HK := Lib.hid (HK.out.trans k)
  clear k b' hX
  go_wp2_with (rw [HX7.out])
  refine (lwhole_c 1 X7).mono ?_
  rintro e u8 ⟨rfl, k⟩
  replace HK := Lib.hid (HK.out.trans k)
  clear k
  go_wp2_with fail
  refine (ltext_c _ u8).mono ?_
  rintro e u9 ⟨rfl, k⟩
  replace HK := Lib.hid (HK.out.trans k)
  clear k
  go_wp2_with fail
  refine (R2.out u9 (HT.out.kept HK.out)).mono ?_
  rintro e u10 ⟨rfl, k⟩
  replace HK := Lib.hid (HK.out.trans k)
  clear k
  obtain ⟨X11, hX⟩ : ∃ W, u10.alloc (.cells #[.int .i64 d2.v.tag, .int .i64 d2.v.n, .int .u64 (d2.v.bits : Int), .string d2.v.s, .slice none 0 0] vT) = W := ⟨_, rfl⟩
  obtain ⟨k, b', _⟩ := vnew hX
  have HX11 := Lib.hid hX
  replace HK := Lib.hid (HK.out.trans k)
  clear k b' hX
  have f1 := F1a.out
  have f2 := F1b.out
  have f3 := F2a.out
  go_wp2_with (rw [HX11.out])
  refine (lfloat_c 0 X11).mono ?_
  rintro e u12 ⟨rfl, k⟩
  replace HK := Lib.hid (HK.out.trans k)
  clear k
  clear f1 f2 f3
  go_wp2_with fail
  refine (lfloat_c 9223372036854775808 u12).mono ?_
  rintro e u13 ⟨rfl, k⟩
  replace HK := Lib.hid (HK.out.trans k)
  clear k
  go_wp2_with fail
  refine (ltruth_c 0 u13).mono ?_
  rintro e u14 ⟨rfl, k⟩
  replace HK := Lib.hid (HK.out.trans k)
  clear k
  go_wp2_with fail
  refine (D1.out u14 (HT.out.kept HK.out)).mono ?_
  rintro e u15 ⟨rfl, k⟩
  rw [show sameV (vB false) ⟨3, 0, 0, e0⟩ = true by kernel_rfl]
  replace HK := Lib.hid (HK.out.trans k)
  clear k
  go_wp2_with fail
  refine (lfloat_c 9221120237041090560 u15).mono ?_
  rintro e u16 ⟨rfl, k⟩
  replace HK := Lib.hid (HK.out.trans k)
  clear k
  go_wp2_with fail
  refine (lfloat_c 9221120237041090560 u16).mono ?_
  rintro e u17 ⟨rfl, k⟩
  replace HK := Lib.hid (HK.out.trans k)
  clear k
  go_wp2_with fail
  refine (ltruth_c 0 u17).mono ?_
  rintro e u18 ⟨rfl, k⟩
  replace HK := Lib.hid (HK.out.trans k)
  clear k
  go_wp2_with fail
  refine (D2.out u18 (HT.out.kept HK.out)).mono ?_
  rintro e u19 ⟨rfl, k⟩
  rw [show sameV (vB false) ⟨3, 0, 0, e0⟩ = true by kernel_rfl]
  replace HK := Lib.hid (HK.out.trans k)
  clear k
  go_wp2_with fail
  refine (lwhole_c (-9223372036854775808) u19).mono ?_
  rintro e u20 ⟨rfl, k⟩
  replace HK := Lib.hid (HK.out.trans k)
  clear k
  go_wp2_with fail
  refine (R3.out u20 (HT.out.kept HK.out)).mono ?_
  rintro e u21 ⟨rfl, k⟩
  replace HK := Lib.hid (HK.out.trans k)
  clear k
  obtain ⟨X22, hX⟩ : ∃ W, u21.alloc (.cells #[.int .i64 d3.v.tag, .int .i64 d3.v.n, .int .u64 (d3.v.bits : Int), .string d3.v.s, .slice none 0 0] vT) = W := ⟨_, rfl⟩
  obtain ⟨k, b', _⟩ := vnew hX
  have HX22 := Lib.hid hX
  replace HK := Lib.hid (HK.out.trans k)
  have B3 := Lib.hid b'
  clear k b' hX
  go_wp2_with (rw [HX22.out])
  refine (ltruth_c 1 X22).mono ?_
  rintro e u23 ⟨rfl, k⟩
  replace B3 := Lib.hid (B3.out.kept k)
  replace HK := Lib.hid (HK.out.trans k)
  clear k
  go_wp2_with fail
  refine (R4.out u23 (HT.out.kept HK.out)).mono ?_
  rintro e u24 ⟨rfl, k⟩
  replace B3 := Lib.hid (B3.out.kept k)
  replace HK := Lib.hid (HK.out.trans k)
  clear k
  obtain ⟨X25, hX⟩ : ∃ W, u24.alloc (.cells #[.int .i64 d4.v.tag, .int .i64 d4.v.n, .int .u64 (d4.v.bits : Int), .string d4.v.s, .slice none 0 0] vT) = W := ⟨_, rfl⟩
  obtain ⟨k, b', _⟩ := vnew hX
  have HX25 := Lib.hid hX
  replace B3 := Lib.hid (B3.out.kept k)
  replace HK := Lib.hid (HK.out.trans k)
  have B4 := Lib.hid b'
  clear k b' hX
  go_wp2_with (rw [HX25.out])
  refine (lfloat_c 9221120237041090560 X25).mono ?_
  rintro e u26 ⟨rfl, k⟩
  replace B3 := Lib.hid (B3.out.kept k)
  replace B4 := Lib.hid (B4.out.kept k)
  replace HK := Lib.hid (HK.out.trans k)
  clear k
  go_wp2_with fail
  refine (R5.out u26 (HT.out.kept HK.out)).mono ?_
  rintro e u27 ⟨rfl, k⟩
  replace B3 := Lib.hid (B3.out.kept k)
  replace B4 := Lib.hid (B4.out.kept k)
  replace HK := Lib.hid (HK.out.trans k)
  clear k
  obtain ⟨X28, hX⟩ : ∃ W, u27.alloc (.cells #[.int .i64 d5.v.tag, .int .i64 d5.v.n, .int .u64 (d5.v.bits : Int), .string d5.v.s, .slice none 0 0] vT) = W := ⟨_, rfl⟩
  obtain ⟨k, b', _⟩ := vnew hX
  have HX28 := Lib.hid hX
  replace B3 := Lib.hid (B3.out.kept k)
  replace B4 := Lib.hid (B4.out.kept k)
  replace HK := Lib.hid (HK.out.trans k)
  clear k b' hX
  go_wp2_with (rw [HX28.out])
  refine (lwhole_c 1 X28).mono ?_
  rintro e u29 ⟨rfl, k⟩
  replace B3 := Lib.hid (B3.out.kept k)
  replace B4 := Lib.hid (B4.out.kept k)
  replace HK := Lib.hid (HK.out.trans k)
  clear k
  go_wp2_with fail
  refine (R6.out u29 (HT.out.kept HK.out)).mono ?_
  rintro e u30 ⟨rfl, k⟩
  replace B3 := Lib.hid (B3.out.kept k)
  replace B4 := Lib.hid (B4.out.kept k)
  replace HK := Lib.hid (HK.out.trans k)
  clear k
  obtain ⟨X31, hX⟩ : ∃ W, u30.alloc (.cells #[.int .i64 d6.v.tag, .int .i64 d6.v.n, .int .u64 (d6.v.bits : Int), .string d6.v.s, .slice none 0 0] vT) = W := ⟨_, rfl⟩
  obtain ⟨k, b', _⟩ := vnew hX
  have HX31 := Lib.hid hX
  replace B3 := Lib.hid (B3.out.kept k)
  replace B4 := Lib.hid (B4.out.kept k)
  replace HK := Lib.hid (HK.out.trans k)
  have B6 := Lib.hid b'
  clear k b' hX
  go_wp2_with (rw [HX31.out])
  refine (ltext_c _ X31).mono ?_
  rintro e u32 ⟨rfl, k⟩
  replace B3 := Lib.hid (B3.out.kept k)
  replace B4 := Lib.hid (B4.out.kept k)
  replace B6 := Lib.hid (B6.out.kept k)
  replace HK := Lib.hid (HK.out.trans k)
  clear k
  go_wp2_with fail
  refine (R7.out u32 (HT.out.kept HK.out)).mono ?_
  rintro e u33 ⟨rfl, k⟩
  replace B3 := Lib.hid (B3.out.kept k)
  replace B4 := Lib.hid (B4.out.kept k)
  replace B6 := Lib.hid (B6.out.kept k)
  replace HK := Lib.hid (HK.out.trans k)
  clear k
  obtain ⟨X34, hX⟩ : ∃ W, u33.alloc (.cells #[.int .i64 d7.v.tag, .int .i64 d7.v.n, .int .u64 (d7.v.bits : Int), .string d7.v.s, .slice none 0 0] vT) = W := ⟨_, rfl⟩
  obtain ⟨k, b', _⟩ := vnew hX
  have HX34 := Lib.hid hX
  replace B3 := Lib.hid (B3.out.kept k)
  replace B4 := Lib.hid (B4.out.kept k)
  replace B6 := Lib.hid (B6.out.kept k)
  replace HK := Lib.hid (HK.out.trans k)
  have B7 := Lib.hid b'
  clear k b' hX
  go_wp2_with (rw [HX34.out])
  refine (R8.out X34 (HT.out.kept HK.out)).mono ?_
  rintro e u35 ⟨rfl, k⟩
  replace B3 := Lib.hid (B3.out.kept k)
  replace B4 := Lib.hid (B4.out.kept k)
  replace B6 := Lib.hid (B6.out.kept k)
  replace B7 := Lib.hid (B7.out.kept k)
  replace HK := Lib.hid (HK.out.trans k)
  clear k
  obtain ⟨X36, hX⟩ : ∃ W, u35.alloc (.cells #[.int .i64 z8.tag, .int .i64 z8.n, .int .u64 (z8.bits : Int), .string z8.s, .slice none 0 0] vT) = W := ⟨_, rfl⟩
  obtain ⟨k, b', _⟩ := vnew hX
  have HX36 := Lib.hid hX
  replace B3 := Lib.hid (B3.out.kept k)
  replace B4 := Lib.hid (B4.out.kept k)
  replace B6 := Lib.hid (B6.out.kept k)
  replace B7 := Lib.hid (B7.out.kept k)
  replace HK := Lib.hid (HK.out.trans k)
  have B8 := Lib.hid b'
  clear k b' hX
  go_wp2_with (rw [HX36.out])
  obtain ⟨E1, hD⟩ : ∃ D, X36.drew = D := ⟨_, rfl⟩
  replace B3 := Lib.hid (show Blk E1 u21.heap.size vT (five d3.v none 0 0) by rw [← hD]; exact B3.out.drew)
  replace B4 := Lib.hid (show Blk E1 u24.heap.size vT (five d4.v none 0 0) by rw [← hD]; exact B4.out.drew)
  replace B6 := Lib.hid (show Blk E1 u30.heap.size vT (five d6.v none 0 0) by rw [← hD]; exact B6.out.drew)
  replace B7 := Lib.hid (show Blk E1 u33.heap.size vT (five d7.v none 0 0) by rw [← hD]; exact B7.out.drew)
  replace B8 := Lib.hid (show Blk E1 u35.heap.size vT (five z8 none 0 0) by rw [← hD]; exact B8.out.drew)
  replace HK := Lib.hid (show Kept w E1 by rw [← hD]; exact HK.out.drew)
  refine wp_region_held_drew (S := (fun W => W.cell? ⟨u21.heap.size, 1, none⟩ = some (.int .i64 d3.v.n) ∧ W.cell? ⟨u24.heap.size, 0, none⟩ = some (.int .i64 d4.v.tag) ∧ W.cell? ⟨u24.heap.size, 1, none⟩ = some (.int .i64 d4.v.n) ∧ W.cell? ⟨u24.heap.size, 2, none⟩ = some (.int .u64 (d4.v.bits : Int)) ∧ W.cell? ⟨u24.heap.size, 3, none⟩ = some (.string d4.v.s) ∧ W.cell? ⟨u24.heap.size, 4, none⟩ = some (.slice none 0 0))) (by kernel_rfl) (by rw [hD]; exact ⟨(blkF B3.out).2.1, blkF B4.out⟩) (fun hHeld0 => ?_)
  rw [hD] at hHeld0 ⊢
  clear hD
  have f1 := F3a.out
  have f2 := F3b.out
  have f3 := F4a.out
  have f5 := F5a.out
  have f6 := F5b.out
  have f7 := F6a.out
  have f8 := F7a.out
  refine wpAnyH_take (i := 0) (v := ?_) rfl (by kernel_rfl) (by kernel_rfl) (by kernel_rfl) (fun _ _ _ h => h) (Or.inl ⟨by kernel_rfl, ?_⟩) (by assumption) ?_
  rotate_left
  · intro w hSw; (try dsimp only at hSw); go_simp; (try with_reducible rfl)
  (try simp only [Act.put, List.getElem_toArray, List.getElem_cons_zero, List.getElem_cons_succ, List.setIfInBounds_toArray, List.set_cons_zero, List.set_cons_succ])
  refine wpAnyH_take (i := 1) (v := ?_) rfl (by kernel_rfl) (by kernel_rfl) (by kernel_rfl) (fun _ _ _ h => h) (Or.inl ⟨by kernel_rfl, ?_⟩) (by assumption) ?_
  rotate_left
  · intro w hSw; (try dsimp only at hSw); go_simp; (try with_reducible rfl)
  (try simp only [Act.put, List.getElem_toArray, List.getElem_cons_zero, List.getElem_cons_succ, List.setIfInBounds_toArray, List.set_cons_zero, List.set_cons_succ])
  refine wpAnyH_take (i := 2) (v := ?_) rfl (by kernel_rfl) (by kernel_rfl) (by kernel_rfl) (fun _ _ _ h => h) (Or.inl ⟨by kernel_rfl, ?_⟩) (by assumption) ?_
  rotate_left
  · intro w hSw; (try dsimp only at hSw); go_simp; (try with_reducible rfl)
  (try simp only [Act.put, List.getElem_toArray, List.getElem_cons_zero, List.getElem_cons_succ, List.setIfInBounds_toArray, List.set_cons_zero, List.set_cons_succ])
  refine wpAnyH_take (i := 3) (v := ?_) rfl (by kernel_rfl) (by kernel_rfl) (by kernel_rfl) (fun _ _ _ h => h) (Or.inl ⟨by kernel_rfl, ?_⟩) (by assumption) ?_
  rotate_left
  · intro w hSw; (try dsimp only at hSw); go_simp; (try with_reducible rfl)
  (try simp only [Act.put, List.getElem_toArray, List.getElem_cons_zero, List.getElem_cons_succ, List.setIfInBounds_toArray, List.set_cons_zero, List.set_cons_succ])
  refine wpAnyH_take (i := 4) (v := ?_) rfl (by kernel_rfl) (by kernel_rfl) (by kernel_rfl) (fun _ _ _ h => h) (Or.inl ⟨by kernel_rfl, ?_⟩) (by assumption) ?_
  rotate_left
  · intro w hSw; (try dsimp only at hSw); go_simp; (try with_reducible rfl)
  (try simp only [Act.put, List.getElem_toArray, List.getElem_cons_zero, List.getElem_cons_succ, List.setIfInBounds_toArray, List.set_cons_zero, List.set_cons_succ])
  refine wpAnyH_take (i := 5) (v := ?_) rfl (by kernel_rfl) (by kernel_rfl) (by kernel_rfl) (fun _ _ _ h => h) (Or.inl ⟨by kernel_rfl, ?_⟩) (by assumption) ?_
  rotate_left
  · intro w hSw; (try dsimp only at hSw); go_simp; (try with_reducible rfl)
  (try simp only [Act.put, List.getElem_toArray, List.getElem_cons_zero, List.getElem_cons_succ, List.setIfInBounds_toArray, List.set_cons_zero, List.set_cons_succ])
  refine wpAnyH_take (i := 6) (v := ?_) rfl (by kernel_rfl) (by kernel_rfl) (by kernel_rfl) (fun _ _ _ h => h) (Or.inl ⟨by kernel_rfl, ?_⟩) (by assumption) ?_
  rotate_left
  · intro w hSw; (try dsimp only at hSw); go_simp; (try with_reducible rfl)
  (try simp only [Act.put, List.getElem_toArray, List.getElem_cons_zero, List.getElem_cons_succ, List.setIfInBounds_toArray, List.set_cons_zero, List.set_cons_succ])
  refine wpAnyH_take (i := 7) (v := ?_) rfl (by kernel_rfl) (by kernel_rfl) (by kernel_rfl) (fun _ _ _ h => h) (Or.inl ⟨by kernel_rfl, ?_⟩) (by assumption) ?_
  rotate_left
  · intro w hSw; (try dsimp only at hSw); go_simp; (try with_reducible rfl)
  (try simp only [Act.put, List.getElem_toArray, List.getElem_cons_zero, List.getElem_cons_succ, List.setIfInBounds_toArray, List.set_cons_zero, List.set_cons_succ])
  refine wpAnyH_take (i := 8) (v := ?_) rfl (by kernel_rfl) (by kernel_rfl) (by kernel_rfl) (fun _ _ _ h => h) (Or.inl ⟨by kernel_rfl, ?_⟩) (by assumption) ?_
  rotate_left
  · intro w hSw; (try dsimp only at hSw); go_simp; (try with_reducible rfl)
  (try simp only [Act.put, List.getElem_toArray, List.getElem_cons_zero, List.getElem_cons_succ, List.setIfInBounds_toArray, List.set_cons_zero, List.set_cons_succ])
  refine wpAnyH_take (i := 9) (v := ?_) rfl (by kernel_rfl) (by kernel_rfl) (by kernel_rfl) (fun _ _ _ h => h) (Or.inl ⟨by kernel_rfl, ?_⟩) (by assumption) ?_
  rotate_left
  · intro w hSw; (try dsimp only at hSw); go_simp; (try with_reducible rfl)
  (try simp only [Act.put, List.getElem_toArray, List.getElem_cons_zero, List.getElem_cons_succ, List.setIfInBounds_toArray, List.set_cons_zero, List.set_cons_succ])
  refine wpAnyH_take (i := 10) (v := ?_) rfl (by kernel_rfl) (by kernel_rfl) (by kernel_rfl) (fun _ _ _ h => h) (Or.inl ⟨by kernel_rfl, ?_⟩) (by assumption) ?_
  rotate_left
  · intro w hSw; (try dsimp only at hSw); go_simp; (try with_reducible rfl)
  (try simp only [Act.put, List.getElem_toArray, List.getElem_cons_zero, List.getElem_cons_succ, List.setIfInBounds_toArray, List.set_cons_zero, List.set_cons_succ])
  refine wpAnyH_take (i := 11) (v := ?_) rfl (by kernel_rfl) (by kernel_rfl) (by kernel_rfl) (fun _ _ _ h => h) (Or.inl ⟨by kernel_rfl, ?_⟩) (by assumption) ?_
  rotate_left
  · intro w hSw; (try dsimp only at hSw); go_simp; (try with_reducible rfl)
  (try simp only [Act.put, List.getElem_toArray, List.getElem_cons_zero, List.getElem_cons_succ, List.setIfInBounds_toArray, List.set_cons_zero, List.set_cons_succ])
  refine wpAnyH_take (i := 12) (v := ?_) rfl (by kernel_rfl) (by kernel_rfl) (by kernel_rfl) (fun _ _ _ h => h) (Or.inl ⟨by kernel_rfl, ?_⟩) (by assumption) ?_
  rotate_left
  · intro w hSw; (try dsimp only at hSw); go_simp; (try with_reducible rfl)
  (try simp only [Act.put, List.getElem_toArray, List.getElem_cons_zero, List.getElem_cons_succ, List.setIfInBounds_toArray, List.set_cons_zero, List.set_cons_succ])
  refine wpAnyH_ready (rs := [13]) (by kernel_rfl) (by simp) ?_
  refine AllReadyH.cons rfl (fun K hK => ?_) AllReadyH.nil
  go_simp
  refine (ltruth_c 0 E1).mono ?_
  rintro e v37 ⟨rfl, k⟩
  replace B3 := Lib.hid (B3.out.kept k)
  replace B4 := Lib.hid (B4.out.kept k)
  replace B6 := Lib.hid (B6.out.kept k)
  replace B7 := Lib.hid (B7.out.kept k)
  replace B8 := Lib.hid (B8.out.kept k)
  replace HK := Lib.hid (HK.out.trans k)
  clear k
  refine hK.out _ _ ⟨(blkF B3.out).2.1, blkF B4.out⟩ (fun hH1 => ?_)
  clear hK K
  (try simp only [Act.put, List.getElem_toArray, List.getElem_cons_zero, List.getElem_cons_succ, List.setIfInBounds_toArray, List.set_cons_zero, List.set_cons_succ])
  refine wpAnyH_ready (rs := [14]) (by kernel_rfl) (by simp) ?_
  refine AllReadyH.cons rfl (fun K hK => ?_) AllReadyH.nil
  go_simp
  refine (sameVal_c d4.v ⟨3, 0, 0, e0⟩ v37).mono ?_
  rintro e v38 ⟨rfl, k⟩
  rw [F4b.out]
  replace B3 := Lib.hid (B3.out.kept k)
  replace B4 := Lib.hid (B4.out.kept k)
  replace B6 := Lib.hid (B6.out.kept k)
  replace B7 := Lib.hid (B7.out.kept k)
  replace B8 := Lib.hid (B8.out.kept k)
  replace HK := Lib.hid (HK.out.trans k)
  clear k
  refine hK.out _ _ ⟨(blkF B3.out).2.1, blkF B4.out⟩ (fun hH2 => ?_)
  clear hK K
  (try simp only [Act.put, List.getElem_toArray, List.getElem_cons_zero, List.getElem_cons_succ, List.setIfInBounds_toArray, List.set_cons_zero, List.set_cons_succ])
  refine wpAnyH_take (i := 15) (v := ?_) rfl (by kernel_rfl) (by kernel_rfl) (by kernel_rfl) (fun _ _ _ h => h) (Or.inl ⟨by kernel_rfl, ?_⟩) (by assumption) ?_
  rotate_left
  · intro w hSw; (try dsimp only at hSw); go_simp; (try with_reducible rfl)
  (try simp only [Act.put, List.getElem_toArray, List.getElem_cons_zero, List.getElem_cons_succ, List.setIfInBounds_toArray, List.set_cons_zero, List.set_cons_succ])
  refine wpAnyH_take (i := 16) (v := ?_) rfl (by kernel_rfl) (by kernel_rfl) (by kernel_rfl) (fun _ _ _ h => h) (Or.inl ⟨by kernel_rfl, ?_⟩) (by assumption) ?_
  rotate_left
  · intro w hSw; (try dsimp only at hSw); go_simp; (try with_reducible rfl)
  (try simp only [Act.put, List.getElem_toArray, List.getElem_cons_zero, List.getElem_cons_succ, List.setIfInBounds_toArray, List.set_cons_zero, List.set_cons_succ])
  refine wpAnyH_take (i := 17) (v := ?_) rfl (by kernel_rfl) (by kernel_rfl) (by kernel_rfl) (fun _ _ _ h => h) (Or.inl ⟨by kernel_rfl, ?_⟩) (by assumption) ?_
  rotate_left
  · intro w hSw; (try dsimp only at hSw); go_simp; (try with_reducible rfl)
  (try simp only [Act.put, List.getElem_toArray, List.getElem_cons_zero, List.getElem_cons_succ, List.setIfInBounds_toArray, List.set_cons_zero, List.set_cons_succ])
  refine wpAnyH_take (i := 18) (v := ?_) rfl (by kernel_rfl) (by kernel_rfl) (by kernel_rfl) (fun _ _ _ h => h) (Or.inl ⟨by kernel_rfl, ?_⟩) (by assumption) ?_
  rotate_left
  · intro w hSw; (try dsimp only at hSw); go_simp; (try with_reducible rfl)
  (try simp only [Act.put, List.getElem_toArray, List.getElem_cons_zero, List.getElem_cons_succ, List.setIfInBounds_toArray, List.set_cons_zero, List.set_cons_succ])
  refine wpAnyH_take (i := 19) (v := ?_) rfl (by kernel_rfl) (by kernel_rfl) (by kernel_rfl) (fun _ _ _ h => h) (Or.inl ⟨by kernel_rfl, ?_⟩) (by assumption) ?_
  rotate_left
  · intro w hSw; (try dsimp only at hSw); go_simp; (try with_reducible rfl)
  (try simp only [Act.put, List.getElem_toArray, List.getElem_cons_zero, List.getElem_cons_succ, List.setIfInBounds_toArray, List.set_cons_zero, List.set_cons_succ])
  refine wpAnyH_take (i := 20) (v := ?_) rfl (by kernel_rfl) (by kernel_rfl) (by kernel_rfl) (fun _ _ _ h => h) (Or.inl ⟨by kernel_rfl, ?_⟩) (by assumption) ?_
  rotate_left
  · intro w hSw; (try dsimp only at hSw); go_simp; (try with_reducible rfl)
  (try simp only [Act.put, List.getElem_toArray, List.getElem_cons_zero, List.getElem_cons_succ, List.setIfInBounds_toArray, List.set_cons_zero, List.set_cons_succ])
  refine wpAnyH_take (i := 21) (v := ?_) rfl (by kernel_rfl) (by kernel_rfl) (by kernel_rfl) (fun _ _ _ h => h) (Or.inl ⟨by kernel_rfl, ?_⟩) (by assumption) ?_
  rotate_left
  · intro w hSw; (try dsimp only at hSw); go_simp; (try with_reducible rfl)
  (try simp only [Act.put, List.getElem_toArray, List.getElem_cons_zero, List.getElem_cons_succ, List.setIfInBounds_toArray, List.set_cons_zero, List.set_cons_succ])
  refine wpAnyH_take (i := 22) (v := ?_) rfl (by kernel_rfl) (by kernel_rfl) (by kernel_rfl) (fun _ _ _ h => h) (Or.inl ⟨by kernel_rfl, ?_⟩) (by assumption) ?_
  rotate_left
  · intro w hSw; (try dsimp only at hSw); go_simp; (try with_reducible rfl)
  (try simp only [Act.put, List.getElem_toArray, List.getElem_cons_zero, List.getElem_cons_succ, List.setIfInBounds_toArray, List.set_cons_zero, List.set_cons_succ])
  refine wpAnyH_take (i := 23) (v := ?_) rfl (by kernel_rfl) (by kernel_rfl) (by kernel_rfl) (fun _ _ _ h => h) (Or.inl ⟨by kernel_rfl, ?_⟩) (by assumption) ?_
  rotate_left
  · intro w hSw; (try dsimp only at hSw); go_simp; (try with_reducible rfl)
  (try simp only [Act.put, List.getElem_toArray, List.getElem_cons_zero, List.getElem_cons_succ, List.setIfInBounds_toArray, List.set_cons_zero, List.set_cons_succ])
  refine wpAnyH_take (i := 24) (v := ?_) rfl (by kernel_rfl) (by kernel_rfl) (by kernel_rfl) (fun _ _ _ h => h) (Or.inl ⟨by kernel_rfl, ?_⟩) (by assumption) ?_
  rotate_left
  · intro w hSw; (try dsimp only at hSw); go_simp; (try with_reducible rfl)
  (try simp only [Act.put, List.getElem_toArray, List.getElem_cons_zero, List.getElem_cons_succ, List.setIfInBounds_toArray, List.set_cons_zero, List.set_cons_succ])
  refine wpAnyH_take (i := 25) (v := ?_) rfl (by kernel_rfl) (by kernel_rfl) (by kernel_rfl) (fun _ _ _ h => h) (Or.inl ⟨by kernel_rfl, ?_⟩) (by assumption) ?_
  rotate_left
  · intro w hSw; (try dsimp only at hSw); go_simp; (try with_reducible rfl)
  (try simp only [Act.put, List.getElem_toArray, List.getElem_cons_zero, List.getElem_cons_succ, List.setIfInBounds_toArray, List.set_cons_zero, List.set_cons_succ])
  refine wpAnyH_take (i := 26) (v := ?_) rfl (by kernel_rfl) (by kernel_rfl) (by kernel_rfl) (fun _ _ _ h => h) (Or.inl ⟨by kernel_rfl, ?_⟩) (by assumption) ?_
  rotate_left
  · intro w hSw; (try dsimp only at hSw); go_simp; (try with_reducible rfl)
  (try simp only [Act.put, List.getElem_toArray, List.getElem_cons_zero, List.getElem_cons_succ, List.setIfInBounds_toArray, List.set_cons_zero, List.set_cons_succ])
  refine wpAnyH_take (i := 27) (v := ?_) rfl (by kernel_rfl) (by kernel_rfl) (by kernel_rfl) (fun _ _ _ h => h) (Or.inl ⟨by kernel_rfl, ?_⟩) (by assumption) ?_
  rotate_left
  · intro w hSw; (try dsimp only at hSw); go_simp; (try with_reducible rfl)
  (try simp only [Act.put, List.getElem_toArray, List.getElem_cons_zero, List.getElem_cons_succ, List.setIfInBounds_toArray, List.set_cons_zero, List.set_cons_succ])
  refine wpAnyH_take (i := 28) (v := ?_) rfl (by kernel_rfl) (by kernel_rfl) (by kernel_rfl) (fun _ _ _ h => h) (Or.inl ⟨by kernel_rfl, ?_⟩) (by assumption) ?_
  rotate_left
  · intro w hSw; (try dsimp only at hSw); go_simp; (try with_reducible rfl)
  (try simp only [Act.put, List.getElem_toArray, List.getElem_cons_zero, List.getElem_cons_succ, List.setIfInBounds_toArray, List.set_cons_zero, List.set_cons_succ])
  refine wpAnyH_take (i := 29) (v := ?_) rfl (by kernel_rfl) (by kernel_rfl) (by kernel_rfl) (fun _ _ _ h => h) (Or.inl ⟨by kernel_rfl, ?_⟩) (by assumption) ?_
  rotate_left
  · intro w hSw; (try dsimp only at hSw); go_simp; (try with_reducible rfl)
  (try simp only [Act.put, List.getElem_toArray, List.getElem_cons_zero, List.getElem_cons_succ, List.setIfInBounds_toArray, List.set_cons_zero, List.set_cons_succ])
  refine wpAnyH_take (i := 30) (v := ?_) rfl (by kernel_rfl) (by kernel_rfl) (by kernel_rfl) (fun _ _ _ h => h) (Or.inl ⟨by kernel_rfl, ?_⟩) (by assumption) ?_
  rotate_left
  · intro w hSw; (try dsimp only at hSw); go_simp; (try with_reducible rfl)
  (try simp only [Act.put, List.getElem_toArray, List.getElem_cons_zero, List.getElem_cons_succ, List.setIfInBounds_toArray, List.set_cons_zero, List.set_cons_succ])
  refine wpAnyH_take (i := 31) (v := ?_) rfl (by kernel_rfl) (by kernel_rfl) (by kernel_rfl) (fun _ _ _ h => h) (Or.inl ⟨by kernel_rfl, ?_⟩) (by assumption) ?_
  rotate_left
  · intro w hSw; (try dsimp only at hSw); go_simp; (try with_reducible rfl)
  (try simp only [Act.put, List.getElem_toArray, List.getElem_cons_zero, List.getElem_cons_succ, List.setIfInBounds_toArray, List.set_cons_zero, List.set_cons_succ])
  refine wpAnyH_take (i := 32) (v := ?_) rfl (by kernel_rfl) (by kernel_rfl) (by kernel_rfl) (fun _ _ _ h => h) (Or.inl ⟨by kernel_rfl, ?_⟩) (by assumption) ?_
  rotate_left
  · intro w hSw; (try dsimp only at hSw); go_simp; (try with_reducible rfl)
  (try simp only [Act.put, List.getElem_toArray, List.getElem_cons_zero, List.getElem_cons_succ, List.setIfInBounds_toArray, List.set_cons_zero, List.set_cons_succ])
  refine wpAnyH_take (i := 33) (v := ?_) rfl (by kernel_rfl) (by kernel_rfl) (by kernel_rfl) (fun _ _ _ h => h) (Or.inl ⟨by kernel_rfl, ?_⟩) (by assumption) ?_
  rotate_left
  · intro w hSw; (try dsimp only at hSw); go_simp; (try with_reducible rfl)
  (try simp only [Act.put, List.getElem_toArray, List.getElem_cons_zero, List.getElem_cons_succ, List.setIfInBounds_toArray, List.set_cons_zero, List.set_cons_succ])
  refine wpAnyH_take (i := 34) (v := ?_) rfl (by kernel_rfl) (by kernel_rfl) (by kernel_rfl) (fun _ _ _ h => h) (Or.inl ⟨by kernel_rfl, ?_⟩) (by assumption) ?_
  rotate_left
  · intro w hSw; (try dsimp only at hSw); go_simp; (try with_reducible rfl)
  (try simp only [Act.put, List.getElem_toArray, List.getElem_cons_zero, List.getElem_cons_succ, List.setIfInBounds_toArray, List.set_cons_zero, List.set_cons_succ])
  refine wpAnyH_take (i := 35) (v := ?_) rfl (by kernel_rfl) (by kernel_rfl) (by kernel_rfl) (fun _ _ _ h => h) (Or.inl ⟨by kernel_rfl, ?_⟩) (by assumption) ?_
  rotate_left
  · intro w hSw; (try dsimp only at hSw); go_simp; (try with_reducible rfl)
  (try simp only [Act.put, List.getElem_toArray, List.getElem_cons_zero, List.getElem_cons_succ, List.setIfInBounds_toArray, List.set_cons_zero, List.set_cons_succ])
  refine wpAnyH_take (i := 36) (v := ?_) rfl (by kernel_rfl) (by kernel_rfl) (by kernel_rfl) (fun _ _ _ h => h) (Or.inl ⟨by kernel_rfl, ?_⟩) (by assumption) ?_
  rotate_left
  · intro w hSw; (try dsimp only at hSw); go_simp; (try with_reducible rfl)
  (try simp only [Act.put, List.getElem_toArray, List.getElem_cons_zero, List.getElem_cons_succ, List.setIfInBounds_toArray, List.set_cons_zero, List.set_cons_succ])
  refine wpAnyH_done (by kernel_rfl) ?_ _
  clear f1 f2 f3 f5 f6 f7 f8
  go_wp2_with fail
  obtain ⟨E2, hD⟩ : ∃ D, v38.drew = D := ⟨_, rfl⟩
  replace B3 := Lib.hid (show Blk E2 u21.heap.size vT (five d3.v none 0 0) by rw [← hD]; exact B3.out.drew)
  replace B4 := Lib.hid (show Blk E2 u24.heap.size vT (five d4.v none 0 0) by rw [← hD]; exact B4.out.drew)
  replace B6 := Lib.hid (show Blk E2 u30.heap.size vT (five d6.v none 0 0) by rw [← hD]; exact B6.out.drew)
  replace B7 := Lib.hid (show Blk E2 u33.heap.size vT (five d7.v none 0 0) by rw [← hD]; exact B7.out.drew)
  replace B8 := Lib.hid (show Blk E2 u35.heap.size vT (five z8 none 0 0) by rw [← hD]; exact B8.out.drew)
  replace HK := Lib.hid (show Kept w E2 by rw [← hD]; exact HK.out.drew)
  refine wp_region_held_drew (S := (fun W => W.cell? ⟨u30.heap.size, 0, none⟩ = some (.int .i64 d6.v.tag) ∧ W.cell? ⟨u30.heap.size, 1, none⟩ = some (.int .i64 d6.v.n) ∧ W.cell? ⟨u30.heap.size, 2, none⟩ = some (.int .u64 (d6.v.bits : Int)) ∧ W.cell? ⟨u30.heap.size, 3, none⟩ = some (.string d6.v.s) ∧ W.cell? ⟨u30.heap.size, 4, none⟩ = some (.slice none 0 0) ∧ W.cell? ⟨u33.heap.size, 0, none⟩ = some (.int .i64 d7.v.tag) ∧ W.cell? ⟨u33.heap.size, 1, none⟩ = some (.int .i64 d7.v.n) ∧ W.cell? ⟨u33.heap.size, 2, none⟩ = some (.int .u64 (d7.v.bits : Int)) ∧ W.cell? ⟨u33.heap.size, 3, none⟩ = some (.string d7.v.s) ∧ W.cell? ⟨u33.heap.size, 4, none⟩ = some (.slice none 0 0) ∧ W.cell? ⟨u35.heap.size, 0, none⟩ = some (.int .i64 z8.tag))) (by kernel_rfl) (by rw [hD]; exact ⟨(blkF B6.out).1, (blkF B6.out).2.1, (blkF B6.out).2.2.1, (blkF B6.out).2.2.2.1, (blkF B6.out).2.2.2.2, (blkF B7.out).1, (blkF B7.out).2.1, (blkF B7.out).2.2.1, (blkF B7.out).2.2.2.1, (blkF B7.out).2.2.2.2, (blkF B8.out).1⟩) (fun hHeld0 => ?_)
  rw [hD] at hHeld0 ⊢
  clear hD
  refine wpAnyH_ready (rs := [0]) (by kernel_rfl) (by simp) ?_
  refine AllReadyH.cons rfl (fun K hK => ?_) AllReadyH.nil
  go_simp
  refine (lawake_c E2 (HT.out.kept HK.out)).mono ?_
  rintro e v39 ⟨rfl, k⟩
  replace B3 := Lib.hid (B3.out.kept k)
  replace B4 := Lib.hid (B4.out.kept k)
  replace B6 := Lib.hid (B6.out.kept k)
  replace B7 := Lib.hid (B7.out.kept k)
  replace B8 := Lib.hid (B8.out.kept k)
  replace HK := Lib.hid (HK.out.trans k)
  clear k
  refine hK.out _ _ ⟨(blkF B6.out).1, (blkF B6.out).2.1, (blkF B6.out).2.2.1, (blkF B6.out).2.2.2.1, (blkF B6.out).2.2.2.2, (blkF B7.out).1, (blkF B7.out).2.1, (blkF B7.out).2.2.1, (blkF B7.out).2.2.2.1, (blkF B7.out).2.2.2.2, (blkF B8.out).1⟩ (fun hH3 => ?_)
  clear hK K
  (try simp only [Act.put, List.getElem_toArray, List.getElem_cons_zero, List.getElem_cons_succ, List.setIfInBounds_toArray, List.set_cons_zero, List.set_cons_succ])
  refine wpAnyH_take (i := 1) (v := ?_) rfl (by kernel_rfl) (by kernel_rfl) (by kernel_rfl) (fun _ _ _ h => h) (Or.inl ⟨by kernel_rfl, ?_⟩) (by assumption) ?_
  rotate_left
  · intro w hSw; (try dsimp only at hSw); go_simp; (try with_reducible rfl)
  (try simp only [Act.put, List.getElem_toArray, List.getElem_cons_zero, List.getElem_cons_succ, List.setIfInBounds_toArray, List.set_cons_zero, List.set_cons_succ])
  refine wpAnyH_take (i := 2) (v := ?_) rfl (by kernel_rfl) (by kernel_rfl) (by kernel_rfl) (fun _ _ _ h => h) (Or.inl ⟨by kernel_rfl, ?_⟩) (by assumption) ?_
  rotate_left
  · intro w hSw; (try dsimp only at hSw); go_simp; (try with_reducible rfl)
  (try simp only [Act.put, List.getElem_toArray, List.getElem_cons_zero, List.getElem_cons_succ, List.setIfInBounds_toArray, List.set_cons_zero, List.set_cons_succ])
  refine wpAnyH_take (i := 3) (v := ?_) rfl (by kernel_rfl) (by kernel_rfl) (by kernel_rfl) (fun _ _ _ h => h) (Or.inl ⟨by kernel_rfl, ?_⟩) (by assumption) ?_
  rotate_left
  · intro w hSw; (try dsimp only at hSw); go_simp; (try with_reducible rfl)
  (try simp only [Act.put, List.getElem_toArray, List.getElem_cons_zero, List.getElem_cons_succ, List.setIfInBounds_toArray, List.set_cons_zero, List.set_cons_succ])
  refine wpAnyH_take (i := 4) (v := ?_) rfl (by kernel_rfl) (by kernel_rfl) (by kernel_rfl) (fun _ _ _ h => h) (Or.inl ⟨by kernel_rfl, ?_⟩) (by assumption) ?_
  rotate_left
  · intro w hSw; (try dsimp only at hSw); go_simp; (try with_reducible rfl)
  (try simp only [Act.put, List.getElem_toArray, List.getElem_cons_zero, List.getElem_cons_succ, List.setIfInBounds_toArray, List.set_cons_zero, List.set_cons_succ])
  refine wpAnyH_take (i := 5) (v := ?_) rfl (by kernel_rfl) (by kernel_rfl) (by kernel_rfl) (fun _ _ _ h => h) (Or.inl ⟨by kernel_rfl, ?_⟩) (by assumption) ?_
  rotate_left
  · intro w hSw; (try dsimp only at hSw); go_simp; (try with_reducible rfl)
  (try simp only [Act.put, List.getElem_toArray, List.getElem_cons_zero, List.getElem_cons_succ, List.setIfInBounds_toArray, List.set_cons_zero, List.set_cons_succ])
  refine wpAnyH_take (i := 6) (v := ?_) rfl (by kernel_rfl) (by kernel_rfl) (by kernel_rfl) (fun _ _ _ h => h) (Or.inl ⟨by kernel_rfl, ?_⟩) (by assumption) ?_
  rotate_left
  · intro w hSw; (try dsimp only at hSw); go_simp; (try with_reducible rfl)
  (try simp only [Act.put, List.getElem_toArray, List.getElem_cons_zero, List.getElem_cons_succ, List.setIfInBounds_toArray, List.set_cons_zero, List.set_cons_succ])
  refine wpAnyH_take (i := 7) (v := ?_) rfl (by kernel_rfl) (by kernel_rfl) (by kernel_rfl) (fun _ _ _ h => h) (Or.inl ⟨by kernel_rfl, ?_⟩) (by assumption) ?_
  rotate_left
  · intro w hSw; (try dsimp only at hSw); go_simp; (try with_reducible rfl)
  (try simp only [Act.put, List.getElem_toArray, List.getElem_cons_zero, List.getElem_cons_succ, List.setIfInBounds_toArray, List.set_cons_zero, List.set_cons_succ])
  refine wpAnyH_take (i := 8) (v := ?_) rfl (by kernel_rfl) (by kernel_rfl) (by kernel_rfl) (fun _ _ _ h => h) (Or.inl ⟨by kernel_rfl, ?_⟩) (by assumption) ?_
  rotate_left
  · intro w hSw; (try dsimp only at hSw); go_simp; (try with_reducible rfl)
  (try simp only [Act.put, List.getElem_toArray, List.getElem_cons_zero, List.getElem_cons_succ, List.setIfInBounds_toArray, List.set_cons_zero, List.set_cons_succ])
  refine wpAnyH_take (i := 9) (v := ?_) rfl (by kernel_rfl) (by kernel_rfl) (by kernel_rfl) (fun _ _ _ h => h) (Or.inl ⟨by kernel_rfl, ?_⟩) (by assumption) ?_
  rotate_left
  · intro w hSw; (try dsimp only at hSw); go_simp; (try with_reducible rfl)
  (try simp only [Act.put, List.getElem_toArray, List.getElem_cons_zero, List.getElem_cons_succ, List.setIfInBounds_toArray, List.set_cons_zero, List.set_cons_succ])
  refine wpAnyH_take (i := 10) (v := ?_) rfl (by kernel_rfl) (by kernel_rfl) (by kernel_rfl) (fun _ _ _ h => h) (Or.inl ⟨by kernel_rfl, ?_⟩) (by assumption) ?_
  rotate_left
  · intro w hSw; (try dsimp only at hSw); go_simp; (try with_reducible rfl)
  (try simp only [Act.put, List.getElem_toArray, List.getElem_cons_zero, List.getElem_cons_succ, List.setIfInBounds_toArray, List.set_cons_zero, List.set_cons_succ])
  refine wpAnyH_take (i := 11) (v := ?_) rfl (by kernel_rfl) (by kernel_rfl) (by kernel_rfl) (fun _ _ _ h => h) (Or.inl ⟨by kernel_rfl, ?_⟩) (by assumption) ?_
  rotate_left
  · intro w hSw; (try dsimp only at hSw); go_simp; (try with_reducible rfl)
  (try simp only [Act.put, List.getElem_toArray, List.getElem_cons_zero, List.getElem_cons_succ, List.setIfInBounds_toArray, List.set_cons_zero, List.set_cons_succ])
  refine wpAnyH_ready (rs := [12]) (by kernel_rfl) (by simp) ?_
  refine AllReadyH.cons rfl (fun K hK => ?_) AllReadyH.nil
  go_simp
  refine (lfloat_c 4607182418800017408 v39).mono ?_
  rintro e v40 ⟨rfl, k⟩
  replace B3 := Lib.hid (B3.out.kept k)
  replace B4 := Lib.hid (B4.out.kept k)
  replace B6 := Lib.hid (B6.out.kept k)
  replace B7 := Lib.hid (B7.out.kept k)
  replace B8 := Lib.hid (B8.out.kept k)
  replace HK := Lib.hid (HK.out.trans k)
  clear k
  refine hK.out _ _ ⟨(blkF B6.out).1, (blkF B6.out).2.1, (blkF B6.out).2.2.1, (blkF B6.out).2.2.2.1, (blkF B6.out).2.2.2.2, (blkF B7.out).1, (blkF B7.out).2.1, (blkF B7.out).2.2.1, (blkF B7.out).2.2.2.1, (blkF B7.out).2.2.2.2, (blkF B8.out).1⟩ (fun hH4 => ?_)
  clear hK K
  (try simp only [Act.put, List.getElem_toArray, List.getElem_cons_zero, List.getElem_cons_succ, List.setIfInBounds_toArray, List.set_cons_zero, List.set_cons_succ])
  refine wpAnyH_ready (rs := [13]) (by kernel_rfl) (by simp) ?_
  refine AllReadyH.cons rfl (fun K hK => ?_) AllReadyH.nil
  go_simp
  refine (sameVal_c d6.v (vR 4607182418800017408) v40).mono ?_
  rintro e v41 ⟨rfl, k⟩
  rw [F6b.out]
  replace B3 := Lib.hid (B3.out.kept k)
  replace B4 := Lib.hid (B4.out.kept k)
  replace B6 := Lib.hid (B6.out.kept k)
  replace B7 := Lib.hid (B7.out.kept k)
  replace B8 := Lib.hid (B8.out.kept k)
  replace HK := Lib.hid (HK.out.trans k)
  clear k
  refine hK.out _ _ ⟨(blkF B6.out).1, (blkF B6.out).2.1, (blkF B6.out).2.2.1, (blkF B6.out).2.2.2.1, (blkF B6.out).2.2.2.2, (blkF B7.out).1, (blkF B7.out).2.1, (blkF B7.out).2.2.1, (blkF B7.out).2.2.2.1, (blkF B7.out).2.2.2.2, (blkF B8.out).1⟩ (fun hH5 => ?_)
  clear hK K
  (try simp only [Act.put, List.getElem_toArray, List.getElem_cons_zero, List.getElem_cons_succ, List.setIfInBounds_toArray, List.set_cons_zero, List.set_cons_succ])
  refine wpAnyH_take (i := 14) (v := ?_) rfl (by kernel_rfl) (by kernel_rfl) (by kernel_rfl) (fun _ _ _ h => h) (Or.inl ⟨by kernel_rfl, ?_⟩) (by assumption) ?_
  rotate_left
  · intro w hSw; (try dsimp only at hSw); go_simp; (try with_reducible rfl)
  (try simp only [Act.put, List.getElem_toArray, List.getElem_cons_zero, List.getElem_cons_succ, List.setIfInBounds_toArray, List.set_cons_zero, List.set_cons_succ])
  refine wpAnyH_take (i := 15) (v := ?_) rfl (by kernel_rfl) (by kernel_rfl) (by kernel_rfl) (fun _ _ _ h => h) (Or.inl ⟨by kernel_rfl, ?_⟩) (by assumption) ?_
  rotate_left
  · intro w hSw; (try dsimp only at hSw); go_simp; (try with_reducible rfl)
  (try simp only [Act.put, List.getElem_toArray, List.getElem_cons_zero, List.getElem_cons_succ, List.setIfInBounds_toArray, List.set_cons_zero, List.set_cons_succ])
  refine wpAnyH_take (i := 16) (v := ?_) rfl (by kernel_rfl) (by kernel_rfl) (by kernel_rfl) (fun _ _ _ h => h) (Or.inl ⟨by kernel_rfl, ?_⟩) (by assumption) ?_
  rotate_left
  · intro w hSw; (try dsimp only at hSw); go_simp; (try with_reducible rfl)
  (try simp only [Act.put, List.getElem_toArray, List.getElem_cons_zero, List.getElem_cons_succ, List.setIfInBounds_toArray, List.set_cons_zero, List.set_cons_succ])
  refine wpAnyH_ready (rs := [17]) (by kernel_rfl) (by simp) ?_
  refine AllReadyH.cons rfl (fun K hK => ?_) AllReadyH.nil
  go_simp
  refine (lwhole_c 2 v41).mono ?_
  rintro e v42 ⟨rfl, k⟩
  replace B3 := Lib.hid (B3.out.kept k)
  replace B4 := Lib.hid (B4.out.kept k)
  replace B6 := Lib.hid (B6.out.kept k)
  replace B7 := Lib.hid (B7.out.kept k)
  replace B8 := Lib.hid (B8.out.kept k)
  replace HK := Lib.hid (HK.out.trans k)
  clear k
  refine hK.out _ _ ⟨(blkF B6.out).1, (blkF B6.out).2.1, (blkF B6.out).2.2.1, (blkF B6.out).2.2.2.1, (blkF B6.out).2.2.2.2, (blkF B7.out).1, (blkF B7.out).2.1, (blkF B7.out).2.2.1, (blkF B7.out).2.2.2.1, (blkF B7.out).2.2.2.2, (blkF B8.out).1⟩ (fun hH6 => ?_)
  clear hK K
  (try simp only [Act.put, List.getElem_toArray, List.getElem_cons_zero, List.getElem_cons_succ, List.setIfInBounds_toArray, List.set_cons_zero, List.set_cons_succ])
  refine wpAnyH_ready (rs := [18]) (by kernel_rfl) (by simp) ?_
  refine AllReadyH.cons rfl (fun K hK => ?_) AllReadyH.nil
  go_simp
  refine (sameVal_c d7.v (vI 2) v42).mono ?_
  rintro e v43 ⟨rfl, k⟩
  rw [F7b.out]
  replace B3 := Lib.hid (B3.out.kept k)
  replace B4 := Lib.hid (B4.out.kept k)
  replace B6 := Lib.hid (B6.out.kept k)
  replace B7 := Lib.hid (B7.out.kept k)
  replace B8 := Lib.hid (B8.out.kept k)
  replace HK := Lib.hid (HK.out.trans k)
  clear k
  refine hK.out _ _ ⟨(blkF B6.out).1, (blkF B6.out).2.1, (blkF B6.out).2.2.1, (blkF B6.out).2.2.2.1, (blkF B6.out).2.2.2.2, (blkF B7.out).1, (blkF B7.out).2.1, (blkF B7.out).2.2.1, (blkF B7.out).2.2.2.1, (blkF B7.out).2.2.2.2, (blkF B8.out).1⟩ (fun hH7 => ?_)
  clear hK K
  (try simp only [Act.put, List.getElem_toArray, List.getElem_cons_zero, List.getElem_cons_succ, List.setIfInBounds_toArray, List.set_cons_zero, List.set_cons_succ])
  refine wpAnyH_take (i := 19) (v := ?_) rfl (by kernel_rfl) (by kernel_rfl) (by kernel_rfl) (fun _ _ _ h => h) (Or.inl ⟨by kernel_rfl, ?_⟩) (by assumption) ?_
  rotate_left
  · intro w hSw; (try dsimp only at hSw); go_simp; (try with_reducible rfl)
  (try simp only [Act.put, List.getElem_toArray, List.getElem_cons_zero, List.getElem_cons_succ, List.setIfInBounds_toArray, List.set_cons_zero, List.set_cons_succ])
  refine wpAnyH_take (i := 20) (v := ?_) rfl (by kernel_rfl) (by kernel_rfl) (by kernel_rfl) (fun _ _ _ h => h) (Or.inl ⟨by kernel_rfl, ?_⟩) (by assumption) ?_
  rotate_left
  · intro w hSw; (try dsimp only at hSw); go_simp; (try with_reducible rfl)
  (try simp only [Act.put, List.getElem_toArray, List.getElem_cons_zero, List.getElem_cons_succ, List.setIfInBounds_toArray, List.set_cons_zero, List.set_cons_succ])
  refine wpAnyH_take (i := 21) (v := ?_) rfl (by kernel_rfl) (by kernel_rfl) (by kernel_rfl) (fun _ _ _ h => h) (Or.inl ⟨by kernel_rfl, ?_⟩) (by assumption) ?_
  rotate_left
  · intro w hSw; (try dsimp only at hSw); go_simp; (try with_reducible rfl)
  (try simp only [Act.put, List.getElem_toArray, List.getElem_cons_zero, List.getElem_cons_succ, List.setIfInBounds_toArray, List.set_cons_zero, List.set_cons_succ])
  refine wpAnyH_ready (rs := [22]) (by kernel_rfl) (by simp) ?_
  refine AllReadyH.cons rfl (fun K hK => ?_) AllReadyH.nil
  go_simp
  refine (zshow_c d6.v OK6.out none 0 0 v43 (HK.out.cell HTAB.out)).mono ?_
  rintro e v44 ⟨rfl, k⟩
  rw [F6c.out]
  replace B3 := Lib.hid (B3.out.kept k)
  replace B4 := Lib.hid (B4.out.kept k)
  replace B6 := Lib.hid (B6.out.kept k)
  replace B7 := Lib.hid (B7.out.kept k)
  replace B8 := Lib.hid (B8.out.kept k)
  replace HK := Lib.hid (HK.out.trans k)
  clear k
  refine hK.out _ _ ⟨(blkF B6.out).1, (blkF B6.out).2.1, (blkF B6.out).2.2.1, (blkF B6.out).2.2.2.1, (blkF B6.out).2.2.2.2, (blkF B7.out).1, (blkF B7.out).2.1, (blkF B7.out).2.2.1, (blkF B7.out).2.2.2.1, (blkF B7.out).2.2.2.2, (blkF B8.out).1⟩ (fun hH8 => ?_)
  clear hK K
  (try simp only [Act.put, List.getElem_toArray, List.getElem_cons_zero, List.getElem_cons_succ, List.setIfInBounds_toArray, List.set_cons_zero, List.set_cons_succ])
  have f9 := F8.out
  refine wpAnyH_take (i := 23) (v := ?_) rfl (by kernel_rfl) (by kernel_rfl) (by kernel_rfl) (fun _ _ _ h => h) (Or.inl ⟨by kernel_rfl, ?_⟩) (by assumption) ?_
  rotate_left
  · intro w hSw; (try dsimp only at hSw); go_simp; (try with_reducible rfl)
  (try simp only [Act.put, List.getElem_toArray, List.getElem_cons_zero, List.getElem_cons_succ, List.setIfInBounds_toArray, List.set_cons_zero, List.set_cons_succ])
  refine wpAnyH_take (i := 24) (v := ?_) rfl (by kernel_rfl) (by kernel_rfl) (by kernel_rfl) (fun _ _ _ h => h) (Or.inl ⟨by kernel_rfl, ?_⟩) (by assumption) ?_
  rotate_left
  · intro w hSw; (try dsimp only at hSw); go_simp; (try with_reducible rfl)
  (try simp only [Act.put, List.getElem_toArray, List.getElem_cons_zero, List.getElem_cons_succ, List.setIfInBounds_toArray, List.set_cons_zero, List.set_cons_succ])
  refine wpAnyH_take (i := 25) (v := ?_) rfl (by kernel_rfl) (by kernel_rfl) (by kernel_rfl) (fun _ _ _ h => h) (Or.inl ⟨by kernel_rfl, ?_⟩) (by assumption) ?_
  rotate_left
  · intro w hSw; (try dsimp only at hSw); go_simp; (try with_reducible rfl)
  (try simp only [Act.put, List.getElem_toArray, List.getElem_cons_zero, List.getElem_cons_succ, List.setIfInBounds_toArray, List.set_cons_zero, List.set_cons_succ])
  refine wpAnyH_take (i := 26) (v := ?_) rfl (by kernel_rfl) (by kernel_rfl) (by kernel_rfl) (fun _ _ _ h => h) (Or.inl ⟨by kernel_rfl, ?_⟩) (by assumption) ?_
  rotate_left
  · intro w hSw; (try dsimp only at hSw); go_simp; (try with_reducible rfl)
  (try simp only [Act.put, List.getElem_toArray, List.getElem_cons_zero, List.getElem_cons_succ, List.setIfInBounds_toArray, List.set_cons_zero, List.set_cons_succ])
  refine wpAnyH_take (i := 27) (v := ?_) rfl (by kernel_rfl) (by kernel_rfl) (by kernel_rfl) (fun _ _ _ h => h) (Or.inl ⟨by kernel_rfl, ?_⟩) (by assumption) ?_
  rotate_left
  · intro w hSw; (try dsimp only at hSw); go_simp; (try with_reducible rfl)
  (try simp only [Act.put, List.getElem_toArray, List.getElem_cons_zero, List.getElem_cons_succ, List.setIfInBounds_toArray, List.set_cons_zero, List.set_cons_succ])
  refine wpAnyH_take (i := 28) (v := ?_) rfl (by kernel_rfl) (by kernel_rfl) (by kernel_rfl) (fun _ _ _ h => h) (Or.inl ⟨by kernel_rfl, ?_⟩) (by assumption) ?_
  rotate_left
  · intro w hSw; (try dsimp only at hSw); go_simp; (try with_reducible rfl)
  (try simp only [Act.put, List.getElem_toArray, List.getElem_cons_zero, List.getElem_cons_succ, List.setIfInBounds_toArray, List.set_cons_zero, List.set_cons_succ])
  refine wpAnyH_take (i := 29) (v := ?_) rfl (by kernel_rfl) (by kernel_rfl) (by kernel_rfl) (fun _ _ _ h => h) (Or.inl ⟨by kernel_rfl, ?_⟩) (by assumption) ?_
  rotate_left
  · intro w hSw; (try dsimp only at hSw); go_simp; (try with_reducible rfl)
  (try simp only [Act.put, List.getElem_toArray, List.getElem_cons_zero, List.getElem_cons_succ, List.setIfInBounds_toArray, List.set_cons_zero, List.set_cons_succ])
  refine wpAnyH_take (i := 30) (v := ?_) rfl (by kernel_rfl) (by kernel_rfl) (by kernel_rfl) (fun _ _ _ h => h) (Or.inl ⟨by kernel_rfl, ?_⟩) (by assumption) ?_
  rotate_left
  · intro w hSw; (try dsimp only at hSw); go_simp; (try with_reducible rfl)
  (try simp only [Act.put, List.getElem_toArray, List.getElem_cons_zero, List.getElem_cons_succ, List.setIfInBounds_toArray, List.set_cons_zero, List.set_cons_succ])
  refine wpAnyH_done (by kernel_rfl) ?_ _
  clear f9
  go_wp2_with fail
  go_ret
  exact ⟨rfl, HK.out⟩
end Go.Proofs.YtcaailiijmjdlaaGreatDoor
