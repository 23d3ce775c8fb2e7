/- The helpers of stage 4's laws: a type's tag, a tag's type, a word reserved; and the chapter's examples. What was in the world stays as it was. -/
import Derived.Test.YtijflampkdpgfaaDoorRfm
set_option linter.unusedSimpArgs false
set_option linter.unusedVariables false
namespace Go.Proofs.YtijflampkdpgfaaDoor
open Go.ChangeShapes Go.WideShapes Go.ChangeAt Go.RowKit

theorem tags_v (s : ByteArray) (n e : Int) (w : World) (hT : Tb w) (h1 : (Wrd.tag s : Int) = n) (h2 : Wrd.tagE s = e) :
    Calls Tryd.prog 29 #[.string s, .int .i64 n, .int .i64 e] w fun e w' => e = .returned (.bool true) ∧ Kept w w' := by
  have H := tag_c s w hT
  rw [h1, h2] at H
  replace H := Lib.hid H
  clear h1 h2
  go_enter Tryd.func29, Tryd.ntmps29
  go_wp2_with fail
  refine (H.out).mono ?_
  rintro e w1 ⟨rfl, k1⟩
  go_wp2_with fail
  go_ret
  exact ⟨by simp, k1⟩

theorem of_v (n : Int) (s : ByteArray) (e : Int) (w : World) (hT : Tb w) (h1 : Wrd.ofT n = s) (h2 : Wrd.ofE n = e) :
    Calls Tryd.prog 30 #[.int .i64 n, .string s, .int .i64 e] w fun e w' => e = .returned (.bool true) ∧ Kept w w' := by
  have H := oft_c n w hT
  rw [h1, h2] at H
  replace H := Lib.hid H
  clear h1 h2
  go_enter Tryd.func30, Tryd.ntmps30
  go_wp2_with fail
  refine (H.out).mono ?_
  rintro e w1 ⟨rfl, k1⟩
  have hb : (s.toList == s.toList) = true := beq_self_eq_true _
  go_wp2_with fail
  go_ret
  exact ⟨by simp, k1⟩

set_option maxHeartbeats 1000000 in
theorem reserved_c (s : ByteArray) (w : World) (hT : Tb w) :
    Calls Tryd.prog 31 #[.string s] w fun e w' => e = .returned (.bool (Wrd.key s)) ∧ Kept w w' := by
  go_enter Tryd.func31, Tryd.ntmps31
  go_wp2_with fail
  refine (reserved_b _ hT).mono ?_
  rintro e w1 ⟨v, rfl, ⟨g, c, rfl, hg, ht⟩, k1⟩
  rw [len_ws']
  go_wp2_with fail
  go_loop [4] (fun i => ∃ k : Nat, k ≤ 24 ∧ i = .int .i64 k ∧ Hid (s ∉ Wrd.ws.take k)) (fun i => 24 - (intOf i).toNat)
  case atStart => exact ⟨0, by omega, rfl, Lib.hid (by simp)⟩
  case round =>
    obtain ⟨k, hk, rfl, he⟩ := hrel
    by_cases hlt : k < 24
    · have hc := ht.cell k hlt
      by_cases hx : Wrd.ws[k] = s
      · have HE := Lib.hid (show Wrd.key s = true from Wrd.has_iff.2 (show s ∈ Wrd.ws by rw [← hx]; exact List.getElem_mem _))
        have hb : (Wrd.ws[k].toList == s.toList) = true := by rw [hx]; exact beq_self_eq_true _
        clear hx ht
        generalize Wrd.ws[k] = x at *
        go_wp2
        go_ret
        exact ⟨by rw [HE.out]; rfl, k1⟩
      · have HN := Lib.hid (not_before he.out hlt hx)
        have hb := beq_no hx
        clear hx ht
        generalize Wrd.ws[k] = x at *
        go_wp2
        go_round
        case rel => exact ⟨k + 1, by omega, by go_num, HN⟩
        case measure => simp [intOf]; omega
    · obtain rfl : k = 24 := by omega
      have HE := Lib.hid (show Wrd.key s = false from Wrd.has_no he.out)
      clear ht
      go_wp2
      go_ret
      exact ⟨by rw [HE.out]; rfl, k1⟩

theorem name_v (s : ByteArray) (v : Bool) (w : World) (hT : Tb w) (h : Wrd.name s = v) (hs : s.size ≤ 9223372036854775807) :
    Calls Tryd.prog 17 #[.string s] w fun e w' => e = .returned (.bool v) ∧ Kept w w' := by
  subst h
  exact (name_c s w hT hs).mono fun _ _ ⟨h, k⟩ => ⟨h, k⟩

theorem class_v (s : ByteArray) (v : Bool) (w : World) (hT : Tb w) (h : Wrd.cls s = v) (hs : s.size ≤ 9223372036854775807) :
    Calls Tryd.prog 19 #[.string s] w fun e w' => e = .returned (.bool v) ∧ Kept w w' := by
  subst h
  exact (class_c s w hs).mono fun _ _ ⟨h, k⟩ => ⟨h, k⟩

theorem type_v (s : ByteArray) (v : Bool) (w : World) (hT : Tb w) (h : Wrd.typ s = v) (hs : s.size ≤ 9223372036854775807) :
    Calls Tryd.prog 21 #[.string s] w fun e w' => e = .returned (.bool v) ∧ Kept w w' := by
  subst h
  exact (type_c s w hT hs).mono fun _ _ ⟨h, k⟩ => ⟨h, k⟩

theorem kindw_v (s : ByteArray) (v : Int) (w : World) (hT : Tb w) (h : Wrd.kind s = v) (hs : s.size ≤ 9223372036854775807) :
    Calls Tryd.prog 23 #[.string s] w fun e w' => e = .returned (.int .i64 v) ∧ Kept w w' := by
  subst h
  exact (kindw_c s w hT hs).mono fun _ _ ⟨h, k⟩ => ⟨h, k⟩

set_option maxHeartbeats 2000000 in
theorem awake_c (w : World) (hT : Tb w) :
    Calls Tryd.prog 8 #[] w fun e w' => e = .returned (.bool true) ∧ Kept w w' := by
  have H0 := Lib.hid (fun w hT => name_v ⟨#[120, 49, 89]⟩ true w hT (by decide +kernel) (by decide +kernel))
  have H1 := Lib.hid (fun w hT => name_v ⟨#[105, 102]⟩ false w hT (by decide +kernel) (by decide +kernel))
  have H2 := Lib.hid (fun w hT => class_v ⟨#[67, 97, 116, 50]⟩ true w hT (by decide +kernel) (by decide +kernel))
  have H3 := Lib.hid (fun w hT => type_v ⟨#[63]⟩ true w hT (by decide +kernel) (by decide +kernel))
  have H4 := Lib.hid (fun w hT => kindw_v ⟨#[115, 116, 114]⟩ 1 w hT (by decide +kernel) (by decide +kernel))
  have H5 := Lib.hid (fun w hT => tags_v ⟨#[98, 111, 111, 108]⟩ 3 0 w hT (by decide +kernel) (by decide +kernel))
  have HT := Lib.hid hT
  clear hT
  go_enter Tryd.func8, Tryd.ntmps8
  go_wp2_with fail
  refine (H0.out _ (HT.out)).mono ?_
  rintro e w0 ⟨rfl, k0⟩
  have T0 := Lib.hid ((HT.out).kept k0)
  have K0 := Lib.hid k0
  clear k0
  go_wp2_with fail
  refine (H1.out _ (T0.out)).mono ?_
  rintro e w1 ⟨rfl, k1⟩
  have T1 := Lib.hid ((T0.out).kept k1)
  have K1 := Lib.hid (K0.out.trans k1)
  clear k1
  go_wp2_with fail
  refine (H2.out _ (T1.out)).mono ?_
  rintro e w2 ⟨rfl, k2⟩
  have T2 := Lib.hid ((T1.out).kept k2)
  have K2 := Lib.hid (K1.out.trans k2)
  clear k2
  go_wp2_with fail
  refine (H3.out _ (T2.out)).mono ?_
  rintro e w3 ⟨rfl, k3⟩
  have T3 := Lib.hid ((T2.out).kept k3)
  have K3 := Lib.hid (K2.out.trans k3)
  clear k3
  go_wp2_with fail
  refine (H4.out _ (T3.out)).mono ?_
  rintro e w4 ⟨rfl, k4⟩
  have T4 := Lib.hid ((T3.out).kept k4)
  have K4 := Lib.hid (K3.out.trans k4)
  clear k4
  go_wp2_with fail
  refine (H5.out _ (T4.out)).mono ?_
  rintro e w5 ⟨rfl, k5⟩
  have T5 := Lib.hid ((T4.out).kept k5)
  have K5 := Lib.hid (K4.out.trans k5)
  clear k5
  go_wp2_with fail
  go_ret
  exact ⟨rfl, K5.out⟩

set_option maxHeartbeats 2000000 in
theorem known_c (w : World) (hT : Tb w) :
    Calls Tryd.prog 4 #[] w fun e w' => e = .returned (.bool true) ∧ Kept w w' := by
  have H0 := Lib.hid (fun w hT => name_v ⟨#[97]⟩ true w hT (by decide +kernel) (by decide +kernel))
  have H1 := Lib.hid (fun w hT => name_v ⟨#[88]⟩ false w hT (by decide +kernel) (by decide +kernel))
  have H2 := Lib.hid (fun w hT => name_v ⟨#[]⟩ false w hT (by decide +kernel) (by decide +kernel))
  have H3 := Lib.hid (fun w hT => name_v ⟨#[97, 95, 98]⟩ false w hT (by decide +kernel) (by decide +kernel))
  have H4 := Lib.hid (fun w hT => name_v ⟨#[97, 97, 97, 97, 97, 97, 97, 97, 97, 97, 97, 97, 97, 97, 97, 97, 97, 97, 97, 97, 97]⟩ false w hT (by decide +kernel) (by decide +kernel))
  have H5 := Lib.hid (fun w hT => name_v ⟨#[97, 97, 97, 97, 97, 97, 97, 97, 97, 97, 97, 97, 97, 97, 97, 97, 97, 97, 97, 97]⟩ true w hT (by decide +kernel) (by decide +kernel))
  have H6 := Lib.hid (fun w hT => class_v ⟨#[67]⟩ true w hT (by decide +kernel) (by decide +kernel))
  have H7 := Lib.hid (fun w hT => class_v ⟨#[99]⟩ false w hT (by decide +kernel) (by decide +kernel))
  have H8 := Lib.hid (fun w hT => class_v ⟨#[50, 67]⟩ false w hT (by decide +kernel) (by decide +kernel))
  have H9 := Lib.hid (fun w hT => type_v ⟨#[117, 110, 105, 116]⟩ true w hT (by decide +kernel) (by decide +kernel))
  have H10 := Lib.hid (fun w hT => type_v ⟨#[67, 97, 116]⟩ true w hT (by decide +kernel) (by decide +kernel))
  have H11 := Lib.hid (fun w hT => type_v ⟨#[99, 97, 116]⟩ false w hT (by decide +kernel) (by decide +kernel))
  have H12 := Lib.hid (fun w hT => type_v ⟨#[108, 101, 110]⟩ false w hT (by decide +kernel) (by decide +kernel))
  have H13 := Lib.hid (fun w hT => awake_c w hT)
  have H14 := Lib.hid (fun w hT => kindw_v ⟨#[63]⟩ 2 w hT (by decide +kernel) (by decide +kernel))
  have H15 := Lib.hid (fun w hT => kindw_v ⟨#[65]⟩ 3 w hT (by decide +kernel) (by decide +kernel))
  have H16 := Lib.hid (fun w hT => kindw_v ⟨#[97]⟩ 0 w hT (by decide +kernel) (by decide +kernel))
  have H17 := Lib.hid (fun w hT => tags_v ⟨#[65]⟩ 0 7 w hT (by decide +kernel) (by decide +kernel))
  have H18 := Lib.hid (fun w hT => of_v 1 ⟨#[105, 110, 116]⟩ 0 w hT (by kernel_rfl) (by decide +kernel))
  have H19 := Lib.hid (fun w hT => of_v 6 ⟨#[]⟩ 7 w hT (by kernel_rfl) (by decide +kernel))
  have HT := Lib.hid hT
  clear hT
  go_enter Tryd.func4, Tryd.ntmps4
  go_wp2_with fail
  refine (H0.out _ (HT.out)).mono ?_
  rintro e w0 ⟨rfl, k0⟩
  have T0 := Lib.hid ((HT.out).kept k0)
  have K0 := Lib.hid k0
  clear k0
  go_wp2_with fail
  refine (H1.out _ (T0.out)).mono ?_
  rintro e w1 ⟨rfl, k1⟩
  have T1 := Lib.hid ((T0.out).kept k1)
  have K1 := Lib.hid (K0.out.trans k1)
  clear k1
  go_wp2_with fail
  refine (H2.out _ (T1.out)).mono ?_
  rintro e w2 ⟨rfl, k2⟩
  have T2 := Lib.hid ((T1.out).kept k2)
  have K2 := Lib.hid (K1.out.trans k2)
  clear k2
  go_wp2_with fail
  refine (H3.out _ (T2.out)).mono ?_
  rintro e w3 ⟨rfl, k3⟩
  have T3 := Lib.hid ((T2.out).kept k3)
  have K3 := Lib.hid (K2.out.trans k3)
  clear k3
  go_wp2_with fail
  refine (H4.out _ (T3.out)).mono ?_
  rintro e w4 ⟨rfl, k4⟩
  have T4 := Lib.hid ((T3.out).kept k4)
  have K4 := Lib.hid (K3.out.trans k4)
  clear k4
  go_wp2_with fail
  refine (H5.out _ (T4.out)).mono ?_
  rintro e w5 ⟨rfl, k5⟩
  have T5 := Lib.hid ((T4.out).kept k5)
  have K5 := Lib.hid (K4.out.trans k5)
  clear k5
  go_wp2_with fail
  refine (H6.out _ (T5.out)).mono ?_
  rintro e w6 ⟨rfl, k6⟩
  have T6 := Lib.hid ((T5.out).kept k6)
  have K6 := Lib.hid (K5.out.trans k6)
  clear k6
  go_wp2_with fail
  refine (H7.out _ (T6.out)).mono ?_
  rintro e w7 ⟨rfl, k7⟩
  have T7 := Lib.hid ((T6.out).kept k7)
  have K7 := Lib.hid (K6.out.trans k7)
  clear k7
  go_wp2_with fail
  refine (H8.out _ (T7.out)).mono ?_
  rintro e w8 ⟨rfl, k8⟩
  have T8 := Lib.hid ((T7.out).kept k8)
  have K8 := Lib.hid (K7.out.trans k8)
  clear k8
  go_wp2_with fail
  refine (H9.out _ (T8.out)).mono ?_
  rintro e w9 ⟨rfl, k9⟩
  have T9 := Lib.hid ((T8.out).kept k9)
  have K9 := Lib.hid (K8.out.trans k9)
  clear k9
  go_wp2_with fail
  refine (H10.out _ (T9.out)).mono ?_
  rintro e w10 ⟨rfl, k10⟩
  have T10 := Lib.hid ((T9.out).kept k10)
  have K10 := Lib.hid (K9.out.trans k10)
  clear k10
  go_wp2_with fail
  refine (H11.out _ (T10.out)).mono ?_
  rintro e w11 ⟨rfl, k11⟩
  have T11 := Lib.hid ((T10.out).kept k11)
  have K11 := Lib.hid (K10.out.trans k11)
  clear k11
  go_wp2_with fail
  refine (H12.out _ (T11.out)).mono ?_
  rintro e w12 ⟨rfl, k12⟩
  have T12 := Lib.hid ((T11.out).kept k12)
  have K12 := Lib.hid (K11.out.trans k12)
  clear k12
  go_wp2_with fail
  refine (H13.out _ (T12.out)).mono ?_
  rintro e w13 ⟨rfl, k13⟩
  have T13 := Lib.hid ((T12.out).kept k13)
  have K13 := Lib.hid (K12.out.trans k13)
  clear k13
  go_wp2_with fail
  refine (H14.out _ (T13.out)).mono ?_
  rintro e w14 ⟨rfl, k14⟩
  have T14 := Lib.hid ((T13.out).kept k14)
  have K14 := Lib.hid (K13.out.trans k14)
  clear k14
  go_wp2_with fail
  refine (H15.out _ (T14.out)).mono ?_
  rintro e w15 ⟨rfl, k15⟩
  have T15 := Lib.hid ((T14.out).kept k15)
  have K15 := Lib.hid (K14.out.trans k15)
  clear k15
  go_wp2_with fail
  refine (H16.out _ (T15.out)).mono ?_
  rintro e w16 ⟨rfl, k16⟩
  have T16 := Lib.hid ((T15.out).kept k16)
  have K16 := Lib.hid (K15.out.trans k16)
  clear k16
  go_wp2_with fail
  refine (H17.out _ (T16.out)).mono ?_
  rintro e w17 ⟨rfl, k17⟩
  have T17 := Lib.hid ((T16.out).kept k17)
  have K17 := Lib.hid (K16.out.trans k17)
  clear k17
  go_wp2_with fail
  refine (H18.out _ (T17.out)).mono ?_
  rintro e w18 ⟨rfl, k18⟩
  have T18 := Lib.hid ((T17.out).kept k18)
  have K18 := Lib.hid (K17.out.trans k18)
  clear k18
  go_wp2_with fail
  refine (H19.out _ (T18.out)).mono ?_
  rintro e w19 ⟨rfl, k19⟩
  have T19 := Lib.hid ((T18.out).kept k19)
  have K19 := Lib.hid (K18.out.trans k19)
  clear k19
  go_wp2_with fail
  go_ret
  exact ⟨rfl, K19.out⟩

end Go.Proofs.YtijflampkdpgfaaDoor
