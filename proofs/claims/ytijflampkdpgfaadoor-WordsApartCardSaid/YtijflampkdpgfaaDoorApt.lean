/- WordsApart: the walk. What was in the world stays as it was. -/
import Derived.Test.YtijflampkdpgfaaDoorApl
import Derived.Deep.RegionWith
import Derived.Laws.IdiomStrings
set_option linter.unusedSimpArgs false
set_option linter.unusedVariables false
namespace Go.Proofs.YtijflampkdpgfaaDoor
open Go.ChangeShapes Go.WideShapes Go.ChangeAt Go.RowKit

/-- A number of 0 to 25. -/
def PickPost (w : World) (e : Ending) (w' : World) : Prop := ∃ r : Nat, r < 26 ∧ e = .returned (.int .i64 r) ∧ w = w'

theorem pick_c (x : Int) (w : World) (h1 : -9223372036854775808 ≤ x) (h2 : x ≤ 9223372036854775807) :
    Calls Tryd.prog 32 #[.int .i64 x, .int .i64 26] w (PickPost w) := by
  have hb : -26 < x.tmod 26 ∧ x.tmod 26 < 26 := by
    have := Int.tmod_lt_of_pos x (show (0 : Int) < 26 by decide)
    have := Int.lt_tmod_of_pos x (show (0 : Int) < 26 by decide)
    omega
  obtain ⟨q, hq⟩ : ∃ q, x.tmod 26 = q := ⟨_, rfl⟩
  rw [hq] at hb
  obtain ⟨hb1, hb2⟩ := hb
  by_cases hn : q < 0
  · have HP := Lib.hid (show PickPost w (.returned (.int .i64 (q + 26))) w from ⟨(q + 26).toNat, by omega, by rw [Int.toNat_of_nonneg (by omega)], rfl⟩)
    go_enter Tryd.func32, Tryd.ntmps32
    go_wp2
    go_ret
    exact HP.out
  · have hn' : 0 ≤ q := by omega
    have HP := Lib.hid (show PickPost w (.returned (.int .i64 q)) w from ⟨q.toNat, by omega, by rw [Int.toNat_of_nonneg (by omega)], rfl⟩)
    clear hn
    go_enter Tryd.func32, Tryd.ntmps32
    go_wp2
    go_ret
    exact HP.out

theorem conv_r (c : UInt8) (z : Int) (hz : (c.toNat : Int) = z) (w : World) : (convert 38 9 (.slice (some ⟨w.heap.size, 0, none⟩) 1 1)).run Tryd.prog (w.alloc (.cells #[.int .u8 z] 5)) = .ok (.string ⟨#[c]⟩) (w.alloc (.cells #[.int .u8 z] 5)) := by
  subst hz
  exact run_convert_bytes_back (P := Tryd.prog) (w.alloc (.cells #[.int .u8 (c.toNat : Int)] 5)) 38 9 5 ⟨w.heap.size, 0, none⟩ 1 [c] (by kernel_rfl) (by kernel_rfl) (by kernel_rfl) (fun j hj => by
    have : j = 0 := by simpa using hj
    subst this
    exact (Blk.new w 5 #[.int .u8 (c.toNat : Int)]).cell 0)

theorem letter_of {r : Nat} (hr : r < 26) : ∃ c : UInt8, (c.toNat : Int) = 97 + (r : Int) ∧ Wrd.kd c = 0 := by
  refine ⟨UInt8.ofNat (97 + r), ?_, ?_⟩
  · have : (UInt8.ofNat (97 + r)).toNat = 97 + r := by simp [UInt8.toNat_ofNat']; omega
    rw [this]; omega
  · have : (UInt8.ofNat (97 + r)).toNat = 97 + r := by simp [UInt8.toNat_ofNat']; omega
    unfold Wrd.kd Wrd.smB
    rw [this, decide_eq_true (show 97 ≤ 97 + r by omega), decide_eq_true (show 97 + r ≤ 122 by omega)]; rfl

/-- No name and no class name: where nothing more is asked. -/
def NoneOf (ba ke ty : Bool) (kd : Int) : Prop := (ba = true ∧ ke = true ∧ ty = true ∧ kd = 1) ∨ (ba = false ∧ ke = false ∧ ty = true ∧ kd = 2) ∨ (ba = false ∧ ke = true ∧ ty = false ∧ kd = 0) ∨ (ba = false ∧ ke = false ∧ ty = false ∧ kd = 0)

set_option maxHeartbeats 8000000 in
theorem apart_none (s : ByteArray) (x : Int) (w : World) (hT : Tb w) (hl' : (s.size : Int) ≤ 60) (h1 : -9223372036854775808 ≤ x) (h2 : x ≤ 9223372036854775807) (hn : Wrd.name s = false) (hc : Wrd.cls s = false) (hs5 : NoneOf (Wrd.base s) (Wrd.key s) (Wrd.typ s) (Wrd.kind s)) :
    Calls Tryd.prog 5 #[.string s, .int .i64 x] w fun e w' => e = .returned (.bool true) ∧ Kept w w' := by
  have hs : s.size ≤ 9223372036854775807 := by omega
  have hs0 := Int.natCast_nonneg s.size
  have H1 := Lib.hid (fun w hT => known_c w hT)
  have H2 := Lib.hid (fun w hT => name_v s false w hT hn hs)
  have H3 := Lib.hid (fun w hT => class_v s false w hT hc hs)
  have H4 := Lib.hid (fun w hT => kindw_c s w hT hs)
  have H5 := Lib.hid (fun w hT => base_c s w hT)
  have H6 := Lib.hid (fun w hT => key_c s w hT)
  have H7 := Lib.hid (fun w hT => reserved_c s w hT)
  have H8 := Lib.hid (fun w hT => type_c s w hT hs)
  have H9 := Lib.hid (fun w => pick_c x w h1 h2)
  have HT := Lib.hid hT
  clear hT hs hn hc h1 h2
  generalize Wrd.base s = ba at *
  generalize Wrd.key s = ke at *
  generalize Wrd.typ s = ty at *
  generalize Wrd.kind s = kd at *
  rcases hs5 with ⟨rfl, rfl, rfl, rfl⟩ | ⟨rfl, rfl, rfl, rfl⟩ | ⟨rfl, rfl, rfl, rfl⟩ | ⟨rfl, rfl, rfl, rfl⟩
  all_goals
    go_enter Tryd.func5, Tryd.ntmps5
    go_wp2_with fail
    refine (H1.out _ (HT.out)).mono ?_
    rintro e w1 ⟨rfl, k1⟩
    have T1 := Lib.hid ((HT.out).kept k1)
    have K1 := Lib.hid k1
    clear k1
    go_wp2_with fail
    refine (H2.out _ (T1.out)).mono ?_
    rintro e w2 ⟨rfl, k2⟩
    have T2 := Lib.hid ((T1.out).kept k2)
    have K2 := Lib.hid (K1.out.trans k2)
    clear k2
    go_wp2_with fail
    refine (H3.out _ (T2.out)).mono ?_
    rintro e w3 ⟨rfl, k3⟩
    have T3 := Lib.hid ((T2.out).kept k3)
    have K3 := Lib.hid (K2.out.trans k3)
    clear k3
    go_wp2_with fail
    refine (H4.out _ (T3.out)).mono ?_
    rintro e w4 ⟨rfl, k4⟩
    have T4 := Lib.hid ((T3.out).kept k4)
    have K4 := Lib.hid (K3.out.trans k4)
    clear k4
    go_wp2_with fail
    refine (H5.out _ (T4.out)).mono ?_
    rintro e w5 ⟨rfl, k5⟩
    have T5 := Lib.hid ((T4.out).kept k5)
    have K5 := Lib.hid (K4.out.trans k5)
    clear k5
    go_wp2_with fail
    refine (H6.out _ (T5.out)).mono ?_
    rintro e w6 ⟨rfl, k6⟩
    have T6 := Lib.hid ((T5.out).kept k6)
    have K6 := Lib.hid (K5.out.trans k6)
    clear k6
    go_wp2_with fail
    refine (H7.out _ (T6.out)).mono ?_
    rintro e w7 ⟨rfl, k7⟩
    have T7 := Lib.hid ((T6.out).kept k7)
    have K7 := Lib.hid (K6.out.trans k7)
    clear k7
    go_wp2_with fail
    refine (H6.out _ (T7.out)).mono ?_
    rintro e w8 ⟨rfl, k8⟩
    have T8 := Lib.hid ((T7.out).kept k8)
    have K8 := Lib.hid (K7.out.trans k8)
    clear k8
    go_wp2_with fail
    refine (H8.out _ (T8.out)).mono ?_
    rintro e w9 ⟨rfl, k9⟩
    have T9 := Lib.hid ((T8.out).kept k9)
    have K9 := Lib.hid (K8.out.trans k9)
    clear k9
    go_wp2_with fail
    refine (H9.out _).mono ?_
    rintro e w10 ⟨r, hr, rfl, rfl⟩
    obtain ⟨c, hcz, hck⟩ := letter_of hr
    have hcv := conv_r c _ hcz w9
    have hone : ((⟨#[c]⟩ : ByteArray).size : Int) = 1 := rfl
    clear hcz
    have hck' := Lib.hid hck
    clear hck
    go_wp2_with fail
    go_ret
    exact ⟨rfl, K9.out.alloc _⟩

set_option maxHeartbeats 8000000 in
theorem apart_cls (s : ByteArray) (x : Int) (w : World) (hT : Tb w) (h1 : -9223372036854775808 ≤ x) (h2 : x ≤ 9223372036854775807) (hn : Wrd.name s = false) (hc : Wrd.cls s = true) (hba : Wrd.base s = false) (hke : Wrd.key s = false) (hty : Wrd.typ s = true) (hkd : Wrd.kind s = 3) :
    Calls Tryd.prog 5 #[.string s, .int .i64 x] w fun e w' => e = .returned (.bool true) ∧ Kept w w' := by
  obtain ⟨hz1, hz2⟩ := cls_size hc
  have hs : s.size ≤ 9223372036854775807 := by omega
  have hs1 : 1 ≤ (s.size : Int) := by omega
  have hs2 : (s.size : Int) ≤ 20 := by omega
  have hs3 : decide ((20 : Int) < (s.size : Int)) = false := decide_eq_false (by omega)
  have hs4 : decide ((s.size : Int) < 1) = false := decide_eq_false (by omega)
  have H1 := Lib.hid (fun w hT => known_c w hT)
  have H2 := Lib.hid (fun w hT => name_v s false w hT hn hs)
  have H3 := Lib.hid (fun w hT => class_v s true w hT hc hs)
  have H4 := Lib.hid (fun w hT => kindw_v s 3 w hT hkd hs)
  have H5 := fun w hT => base_c s w hT
  have H6 := fun w hT => key_c s w hT
  have H7 := fun w hT => reserved_c s w hT
  have H8 := fun w hT => type_c s w hT hs
  rw [hba] at H5
  rw [hke] at H6 H7
  rw [hty] at H8
  replace H5 := Lib.hid H5
  replace H6 := Lib.hid H6
  replace H7 := Lib.hid H7
  replace H8 := Lib.hid H8
  have H9 := Lib.hid (fun w => pick_c x w h1 h2)
  have HT := Lib.hid hT
  have HC := Lib.hid (show Wrd.spelt s 1 = true from hc)
  clear hT hn hc hba hke hty hkd h1 h2
  by_cases h20 : s.size < 20
  · have a1 : decide ((s.size : Int) < 20) = true := decide_eq_true (by omega)
    have a2 : ((s.size : Int) == 20) = false := by simp; omega
    go_enter Tryd.func5, Tryd.ntmps5
    go_wp2_with fail
    refine (H1.out _ (HT.out)).mono ?_
    rintro e w1 ⟨rfl, k1⟩
    have T1 := Lib.hid ((HT.out).kept k1)
    have K1 := Lib.hid k1
    clear k1
    go_wp2_with fail
    refine (H2.out _ (T1.out)).mono ?_
    rintro e w2 ⟨rfl, k2⟩
    have T2 := Lib.hid ((T1.out).kept k2)
    have K2 := Lib.hid (K1.out.trans k2)
    clear k2
    go_wp2_with fail
    refine (H3.out _ (T2.out)).mono ?_
    rintro e w3 ⟨rfl, k3⟩
    have T3 := Lib.hid ((T2.out).kept k3)
    have K3 := Lib.hid (K2.out.trans k3)
    clear k3
    go_wp2_with fail
    refine (H4.out _ (T3.out)).mono ?_
    rintro e w4 ⟨rfl, k4⟩
    have T4 := Lib.hid ((T3.out).kept k4)
    have K4 := Lib.hid (K3.out.trans k4)
    clear k4
    go_wp2_with fail
    refine (H5.out _ (T4.out)).mono ?_
    rintro e w5 ⟨rfl, k5⟩
    have T5 := Lib.hid ((T4.out).kept k5)
    have K5 := Lib.hid (K4.out.trans k5)
    clear k5
    go_wp2_with fail
    refine (H6.out _ (T5.out)).mono ?_
    rintro e w6 ⟨rfl, k6⟩
    have T6 := Lib.hid ((T5.out).kept k6)
    have K6 := Lib.hid (K5.out.trans k6)
    clear k6
    go_wp2_with fail
    refine (H7.out _ (T6.out)).mono ?_
    rintro e w7 ⟨rfl, k7⟩
    have T7 := Lib.hid ((T6.out).kept k7)
    have K7 := Lib.hid (K6.out.trans k7)
    clear k7
    go_wp2_with fail
    refine (H6.out _ (T7.out)).mono ?_
    rintro e w8 ⟨rfl, k8⟩
    have T8 := Lib.hid ((T7.out).kept k8)
    have K8 := Lib.hid (K7.out.trans k8)
    clear k8
    go_wp2_with fail
    refine (H8.out _ (T8.out)).mono ?_
    rintro e w9 ⟨rfl, k9⟩
    have T9 := Lib.hid ((T8.out).kept k9)
    have K9 := Lib.hid (K8.out.trans k9)
    clear k9
    go_wp2_with fail
    refine (H9.out _).mono ?_
    rintro e w10 ⟨r, hr, rfl, rfl⟩
    obtain ⟨c, hcz, hck⟩ := letter_of hr
    have hcv := conv_r c _ hcz w9
    have hone : ((⟨#[c]⟩ : ByteArray).size : Int) = 1 := rfl
    clear hcz
    have HM := Lib.hid (fun w hT => class_v (s ++ ⟨#[c]⟩) true w hT (by unfold Wrd.cls; rw [spelt_more HC.out hck]; exact decide_eq_true (by omega)) (by rw [more_size]; omega))
    have TP := Lib.hid ((T9.out).kept ((Kept.refl _).alloc (.cells #[.int .u8 (97 + (r : Int))] 5)))
    clear hck
    go_wp2_with fail
    refine (HM.out _ TP.out).mono ?_
    rintro e w10 ⟨rfl, k10⟩
    have K10 := Lib.hid ((K9.out.alloc _).trans k10)
    clear k10
    go_wp2_with fail
    go_ret
    exact ⟨rfl, K10.out⟩
  · have a1 : decide ((s.size : Int) < 20) = false := decide_eq_false (by omega)
    have a2 : ((s.size : Int) == 20) = true := by simp; omega
    go_enter Tryd.func5, Tryd.ntmps5
    go_wp2_with fail
    refine (H1.out _ (HT.out)).mono ?_
    rintro e w1 ⟨rfl, k1⟩
    have T1 := Lib.hid ((HT.out).kept k1)
    have K1 := Lib.hid k1
    clear k1
    go_wp2_with fail
    refine (H2.out _ (T1.out)).mono ?_
    rintro e w2 ⟨rfl, k2⟩
    have T2 := Lib.hid ((T1.out).kept k2)
    have K2 := Lib.hid (K1.out.trans k2)
    clear k2
    go_wp2_with fail
    refine (H3.out _ (T2.out)).mono ?_
    rintro e w3 ⟨rfl, k3⟩
    have T3 := Lib.hid ((T2.out).kept k3)
    have K3 := Lib.hid (K2.out.trans k3)
    clear k3
    go_wp2_with fail
    refine (H4.out _ (T3.out)).mono ?_
    rintro e w4 ⟨rfl, k4⟩
    have T4 := Lib.hid ((T3.out).kept k4)
    have K4 := Lib.hid (K3.out.trans k4)
    clear k4
    go_wp2_with fail
    refine (H5.out _ (T4.out)).mono ?_
    rintro e w5 ⟨rfl, k5⟩
    have T5 := Lib.hid ((T4.out).kept k5)
    have K5 := Lib.hid (K4.out.trans k5)
    clear k5
    go_wp2_with fail
    refine (H6.out _ (T5.out)).mono ?_
    rintro e w6 ⟨rfl, k6⟩
    have T6 := Lib.hid ((T5.out).kept k6)
    have K6 := Lib.hid (K5.out.trans k6)
    clear k6
    go_wp2_with fail
    refine (H7.out _ (T6.out)).mono ?_
    rintro e w7 ⟨rfl, k7⟩
    have T7 := Lib.hid ((T6.out).kept k7)
    have K7 := Lib.hid (K6.out.trans k7)
    clear k7
    go_wp2_with fail
    refine (H6.out _ (T7.out)).mono ?_
    rintro e w8 ⟨rfl, k8⟩
    have T8 := Lib.hid ((T7.out).kept k8)
    have K8 := Lib.hid (K7.out.trans k8)
    clear k8
    go_wp2_with fail
    refine (H8.out _ (T8.out)).mono ?_
    rintro e w9 ⟨rfl, k9⟩
    have T9 := Lib.hid ((T8.out).kept k9)
    have K9 := Lib.hid (K8.out.trans k9)
    clear k9
    go_wp2_with fail
    refine (H9.out _).mono ?_
    rintro e w10 ⟨r, hr, rfl, rfl⟩
    obtain ⟨c, hcz, hck⟩ := letter_of hr
    have hcv := conv_r c _ hcz w9
    have hone : ((⟨#[c]⟩ : ByteArray).size : Int) = 1 := rfl
    clear hcz
    have HM := Lib.hid (fun w hT => class_v (s ++ ⟨#[c]⟩) false w hT (by unfold Wrd.cls; rw [spelt_more HC.out hck]; exact decide_eq_false (by omega)) (by rw [more_size]; omega))
    have TP := Lib.hid ((T9.out).kept ((Kept.refl _).alloc (.cells #[.int .u8 (97 + (r : Int))] 5)))
    clear hck
    go_wp2_with fail
    refine (HM.out _ TP.out).mono ?_
    rintro e w10 ⟨rfl, k10⟩
    have K10 := Lib.hid ((K9.out.alloc _).trans k10)
    clear k10
    go_wp2_with fail
    go_ret
    exact ⟨rfl, K10.out⟩

end Go.Proofs.YtijflampkdpgfaaDoor
