/- WordsApart at a name: the walk. What was in the world stays as it was. -/
import Derived.Test.YtijflampkdpgfaaDoorApt
import Derived.Deep.RegionWith
import Derived.IntWalk
set_option linter.unusedSimpArgs false
set_option linter.unusedVariables false
namespace Go.Proofs.YtijflampkdpgfaaDoor
open Go.ChangeShapes Go.WideShapes Go.ChangeAt Go.RowKit

theorem sl_op (ev : Operand → Value) (o : Oper) (a b : Nat) (s p : ByteArray) (n : Nat) (ho : o.op = .slice 9 (.tmp a) none (some (.tmp b)) none) (ha : ev (.tmp a) = .string s) (hb : ev (.tmp b) = .int .i64 (n : Int)) (hp : s.extract 0 n = p) (hn : (n : Int) ≤ (s.size : Int)) (hs : (s.size : Int) ≤ 20) (w : World) :
    (execOp ev o).run Tryd.prog w = .ok (.value (.string p)) w := by
  subst hp
  have h3 := Int.natCast_nonneg n
  have h4 := Int.natCast_nonneg s.size
  have h5 : n ≤ s.size := by omega
  unfold execOp
  rw [ho]
  simp only [Option.map_some, Option.map_none, ha, hb]
  go_simp

theorem less_size {s : ByteArray} {n : Nat} (h : n ≤ s.size) : (s.extract 0 n).size = n := by
  have e1 : (s.extract 0 n).data.toList.length = (s.extract 0 n).size := by rw [Array.length_toList]; rfl
  have e2 : s.data.toList.length = s.size := by rw [Array.length_toList]; rfl
  rw [← e1, less_data, List.length_take, e2]; omega

set_option maxRecDepth 100000 in
set_option maxHeartbeats 8000000 in
theorem apart_name (s : ByteArray) (x : Int) (w : World) (hT : Tb w) (h1 : -9223372036854775808 ≤ x) (h2 : x ≤ 9223372036854775807) (hn : Wrd.name s = true) (hc : Wrd.cls s = false) (hba : Wrd.base s = false) (hke : Wrd.key s = false) (hty : Wrd.typ s = false) (hkd : Wrd.kind s = 0) :
    Calls Tryd.prog 5 #[.string s, .int .i64 x] w fun e w' => e = .returned (.bool true) ∧ Kept w w' := by
  obtain ⟨hz1, hz2, hsp⟩ := name_size hn
  have hs : s.size ≤ 9223372036854775807 := by omega
  have hs1 : 1 ≤ (s.size : Int) := by omega
  have hs2 : (s.size : Int) ≤ 20 := by omega
  have hs3 : decide ((20 : Int) < (s.size : Int)) = false := decide_eq_false (by omega)
  have hs4 : decide ((s.size : Int) < 1) = false := decide_eq_false (by omega)
  have H1 := Lib.hid (fun w hT => known_c w hT)
  have H2 := Lib.hid (fun w hT => name_v s true w hT hn hs)
  have H3 := Lib.hid (fun w hT => class_v s false w hT hc hs)
  have H4 := Lib.hid (fun w hT => kindw_v s 0 w hT hkd hs)
  have H5 := fun w hT => base_c s w hT
  have H6 := fun w hT => key_c s w hT
  have H7 := fun w hT => reserved_c s w hT
  have H8 := fun w hT => type_c s w hT hs
  rw [hba] at H5
  rw [hke] at H6 H7
  rw [hty] at H8
  replace H5 := Lib.hid H5
  replace H6 := Lib.hid H6
  replace H7 := Lib.hid H7
  replace H8 := Lib.hid H8
  have H9 := Lib.hid (fun w => pick_c x w h1 h2)
  have HT := Lib.hid hT
  have HC := Lib.hid hsp
  clear hT hn hc hba hke hty hkd h1 h2 hsp
  go_enter Tryd.func5, Tryd.ntmps5
  go_wp2_with fail
  refine (H1.out _ (HT.out)).mono ?_
  rintro e w1 ⟨rfl, k1⟩
  have T1 := Lib.hid ((HT.out).kept k1)
  have K1 := Lib.hid k1
  clear k1
  go_wp2_with fail
  refine (H2.out _ (T1.out)).mono ?_
  rintro e w2 ⟨rfl, k2⟩
  have T2 := Lib.hid ((T1.out).kept k2)
  have K2 := Lib.hid (K1.out.trans k2)
  clear k2
  go_wp2_with fail
  refine (H3.out _ (T2.out)).mono ?_
  rintro e w3 ⟨rfl, k3⟩
  have T3 := Lib.hid ((T2.out).kept k3)
  have K3 := Lib.hid (K2.out.trans k3)
  clear k3
  go_wp2_with fail
  refine (H4.out _ (T3.out)).mono ?_
  rintro e w4 ⟨rfl, k4⟩
  have T4 := Lib.hid ((T3.out).kept k4)
  have K4 := Lib.hid (K3.out.trans k4)
  clear k4
  go_wp2_with fail
  refine (H5.out _ (T4.out)).mono ?_
  rintro e w5 ⟨rfl, k5⟩
  have T5 := Lib.hid ((T4.out).kept k5)
  have K5 := Lib.hid (K4.out.trans k5)
  clear k5
  go_wp2_with fail
  refine (H6.out _ (T5.out)).mono ?_
  rintro e w6 ⟨rfl, k6⟩
  have T6 := Lib.hid ((T5.out).kept k6)
  have K6 := Lib.hid (K5.out.trans k6)
  clear k6
  go_wp2_with fail
  refine (H7.out _ (T6.out)).mono ?_
  rintro e w7 ⟨rfl, k7⟩
  have T7 := Lib.hid ((T6.out).kept k7)
  have K7 := Lib.hid (K6.out.trans k7)
  clear k7
  go_wp2_with fail
  refine (H6.out _ (T7.out)).mono ?_
  rintro e w8 ⟨rfl, k8⟩
  have T8 := Lib.hid ((T7.out).kept k8)
  have K8 := Lib.hid (K7.out.trans k8)
  clear k8
  go_wp2_with fail
  refine (H8.out _ (T8.out)).mono ?_
  rintro e w9 ⟨rfl, k9⟩
  have T9 := Lib.hid ((T8.out).kept k9)
  have K9 := Lib.hid (K8.out.trans k9)
  clear k9
  go_wp2_with fail
  refine (H9.out _).mono ?_
  rintro e w10 ⟨r, hr, rfl, rfl⟩
  obtain ⟨c, hcz, hck⟩ := letter_of hr
  have hcv := conv_r c _ hcz w9
  have hone : ((⟨#[c]⟩ : ByteArray).size : Int) = 1 := rfl
  clear hcz
  have hck' := Lib.hid hck
  clear hck
  go_wp2_with fail
  have TP := Lib.hid (T9.out.kept ((Kept.refl w9).alloc (.cells #[.int .u8 (97 + (r : Int))] 5)))
  have KP := Lib.hid (K9.out.alloc (.cells #[.int .u8 (97 + (r : Int))] 5))
  have hmz := more_size s c
  have hmn := spelt_more HC.out hck'.out
  have HMn := fun w hT => name_c (s ++ ⟨#[c]⟩) w hT (by rw [hmz]; omega)
  have HMr := fun w hT => reserved_c (s ++ ⟨#[c]⟩) w hT
  unfold Wrd.name at HMn
  rw [hmn] at HMn
  clear hmn T1 T2 T3 T4 T5 T6 T7 T8 T9 K1 K2 K3 K4 K5 K6 K7 K8 K9 H1 H2 H3 H4 H5 H6 H7 H8 H9 HT hcv hone hr
  generalize (s ++ ⟨#[c]⟩ : ByteArray) = m at *
  generalize Wrd.key m = b at *
  have hmI : (m.size : Int) = (s.size : Int) + 1 := by omega
  clear hmz hck'
  generalize (w9.alloc (.cells #[.int .u8 (97 + (r : Int))] 5)) = wp at *
  have hcase : s.size = 1 ∨ (2 ≤ s.size ∧ s.size ≤ 19) ∨ s.size = 20 := by omega
  rcases hcase with hz | ⟨hz3, hz4⟩ | hz
  · rw [decide_eq_true (show s.size < 20 by omega), Bool.true_and] at HMn
    have a1 : decide ((m.size : Int) ≤ 20) = true := decide_eq_true (by omega)
    have a2 : ((s.size : Int) == 1) = true := by simp; omega
    replace HMn := Lib.hid HMn
    replace HMr := Lib.hid HMr
    clear hmI hz
    refine wp_region_any (by kernel_rfl) ?_
    change wpAny _ _ _ _ _ _ _ (World.drew _)
    refine wpAny_take (i := 0) (v := .bool true) rfl (by kernel_rfl) (by kernel_rfl) (by kernel_rfl) (fun _ _ _ h => h) (Or.inl ⟨by kernel_rfl, by intro w; kernel_rfl⟩) ?_
    refine wpAny_take (i := 1) (v := .bool true) rfl (by kernel_rfl) (by kernel_rfl) (by kernel_rfl) (fun _ _ _ h => h) (Or.inl ⟨by kernel_rfl, by intro w; kernel_rfl⟩) ?_
    refine wpAny_take (i := 2) (v := .string m) rfl (by kernel_rfl) (by kernel_rfl) (by kernel_rfl) (fun _ _ _ h => h) (Or.inl ⟨by kernel_rfl, by intro w; kernel_rfl⟩) ?_
    refine wpAny_take (i := 4) (v := .string m) rfl (by kernel_rfl) (by kernel_rfl) (by kernel_rfl) (fun _ _ _ h => h) (Or.inl ⟨by kernel_rfl, by intro w; kernel_rfl⟩) ?_
    refine wpAny_take (i := 5) (v := .int .i64 (m.size : Int)) rfl (by kernel_rfl) (by kernel_rfl) (by kernel_rfl) (fun _ _ _ h => h) (Or.inl ⟨by kernel_rfl, by intro w; kernel_rfl⟩) ?_
    refine wpAny_take (i := 6) (v := .bool true) rfl (by kernel_rfl) (by kernel_rfl) (by kernel_rfl) (fun _ _ _ h => h) (Or.inl ⟨by kernel_rfl, by intro w; exact (show _ = Result.ok (Next.value (.bool (decide ((m.size : Int) ≤ 20)))) w by kernel_rfl).trans (by rw [a1])⟩) ?_
    refine wpAny_ready (rs := [3]) (by kernel_rfl) (by simp) ?_
    refine AllReady.cons rfl (fun K hK => ?_) AllReady.nil
    go_simp
    go_wp2_with fail
    refine (HMn.out _ (TP.out.kept (Kept.refl _).drew)).mono ?_
    rintro e wa ⟨rfl, ka⟩
    have Ta := Lib.hid ((TP.out.kept (Kept.refl _).drew).kept ka)
    have Ka := Lib.hid (KP.out.drew.trans ka)
    clear ka
    dsimp only
    refine hK _ _ ?_
    clear hK K
    refine wpAny_take (i := 7) (v := .bool true) rfl (by kernel_rfl) (by kernel_rfl) (by kernel_rfl) (fun _ _ _ h => h) (Or.inl ⟨by kernel_rfl, by intro w; kernel_rfl⟩) ?_
    refine wpAny_take (i := 8) (v := .string m) rfl (by kernel_rfl) (by kernel_rfl) (by kernel_rfl) (fun _ _ _ h => h) (Or.inl ⟨by kernel_rfl, by intro w; kernel_rfl⟩) ?_
    refine wpAny_ready (rs := [9]) (by kernel_rfl) (by simp) ?_
    refine AllReady.cons rfl (fun K hK => ?_) AllReady.nil
    go_simp
    go_wp2_with fail
    refine (HMr.out _ (Ta.out)).mono ?_
    rintro e wb ⟨rfl, kb⟩
    have Tb' := Lib.hid ((Ta.out).kept kb)
    have Kb := Lib.hid (Ka.out.trans kb)
    clear kb
    dsimp only
    refine hK _ _ ?_
    clear hK K
    refine wpAny_take (i := 10) (v := .bool (!b)) rfl (by kernel_rfl) (by kernel_rfl) (by kernel_rfl) (fun _ _ _ h => h) (Or.inl ⟨by kernel_rfl, by intro w; kernel_rfl⟩) ?_
    refine wpAny_take (i := 11) (v := .bool (!b)) rfl (by kernel_rfl) (by kernel_rfl) (by kernel_rfl) (fun _ _ _ h => h) (Or.inl ⟨by kernel_rfl, by intro w; kernel_rfl⟩) ?_
    refine wpAny_take (i := 12) (v := .bool true) rfl (by kernel_rfl) (by kernel_rfl) (by kernel_rfl) (fun _ _ _ h => h) (Or.inl ⟨by kernel_rfl, by intro w; cases b <;> kernel_rfl⟩) ?_
    refine wpAny_take (i := 13) (v := .bool true) rfl (by kernel_rfl) (by kernel_rfl) (by kernel_rfl) (fun _ _ _ h => h) (Or.inl ⟨by kernel_rfl, by intro w; kernel_rfl⟩) ?_
    refine wpAny_take (i := 14) (v := .bool true) rfl (by kernel_rfl) (by kernel_rfl) (by kernel_rfl) (fun _ _ _ h => h) (Or.inl ⟨by kernel_rfl, by intro w; kernel_rfl⟩) ?_
    refine wpAny_take (i := 15) (v := .string s) rfl (by kernel_rfl) (by kernel_rfl) (by kernel_rfl) (fun _ _ _ h => h) (Or.inl ⟨by kernel_rfl, by intro w; kernel_rfl⟩) ?_
    refine wpAny_take (i := 16) (v := .int .i64 (s.size : Int)) rfl (by kernel_rfl) (by kernel_rfl) (by kernel_rfl) (fun _ _ _ h => h) (Or.inl ⟨by kernel_rfl, by intro w; kernel_rfl⟩) ?_
    refine wpAny_take (i := 17) (v := .bool true) rfl (by kernel_rfl) (by kernel_rfl) (by kernel_rfl) (fun _ _ _ h => h) (Or.inl ⟨by kernel_rfl, by intro w; exact (show _ = Result.ok (Next.value (.bool ((s.size : Int) == 1))) w by kernel_rfl).trans (by rw [a2])⟩) ?_
    refine wpAny_take (i := 18) (v := .bool true) rfl (by kernel_rfl) (by kernel_rfl) (by kernel_rfl) (fun _ _ _ h => h) (Or.inl ⟨by kernel_rfl, by intro w; kernel_rfl⟩) ?_
    refine wpAny_take (i := 19) (v := undef) rfl (by kernel_rfl) (by kernel_rfl) (by kernel_rfl) (fun _ _ _ h => h) (Or.inr ⟨by kernel_rfl, rfl⟩) ?_
    refine wpAny_take (i := 20) (v := undef) rfl (by kernel_rfl) (by kernel_rfl) (by kernel_rfl) (fun _ _ _ h => h) (Or.inr ⟨by kernel_rfl, rfl⟩) ?_
    refine wpAny_take (i := 21) (v := undef) rfl (by kernel_rfl) (by kernel_rfl) (by kernel_rfl) (fun _ _ _ h => h) (Or.inr ⟨by kernel_rfl, rfl⟩) ?_
    refine wpAny_take (i := 22) (v := undef) rfl (by kernel_rfl) (by kernel_rfl) (by kernel_rfl) (fun _ _ _ h => h) (Or.inr ⟨by kernel_rfl, rfl⟩) ?_
    refine wpAny_take (i := 23) (v := undef) rfl (by kernel_rfl) (by kernel_rfl) (by kernel_rfl) (fun _ _ _ h => h) (Or.inr ⟨by kernel_rfl, rfl⟩) ?_
    refine wpAny_take (i := 24) (v := undef) rfl (by kernel_rfl) (by kernel_rfl) (by kernel_rfl) (fun _ _ _ h => h) (Or.inr ⟨by kernel_rfl, rfl⟩) ?_
    refine wpAny_take (i := 25) (v := undef) rfl (by kernel_rfl) (by kernel_rfl) (by kernel_rfl) (fun _ _ _ h => h) (Or.inr ⟨by kernel_rfl, rfl⟩) ?_
    refine wpAny_take (i := 26) (v := undef) rfl (by kernel_rfl) (by kernel_rfl) (by kernel_rfl) (fun _ _ _ h => h) (Or.inr ⟨by kernel_rfl, rfl⟩) ?_
    refine wpAny_take (i := 27) (v := undef) rfl (by kernel_rfl) (by kernel_rfl) (by kernel_rfl) (fun _ _ _ h => h) (Or.inr ⟨by kernel_rfl, rfl⟩) ?_
    refine wpAny_take (i := 28) (v := undef) rfl (by kernel_rfl) (by kernel_rfl) (by kernel_rfl) (fun _ _ _ h => h) (Or.inr ⟨by kernel_rfl, rfl⟩) ?_
    refine wpAny_take (i := 29) (v := undef) rfl (by kernel_rfl) (by kernel_rfl) (by kernel_rfl) (fun _ _ _ h => h) (Or.inr ⟨by kernel_rfl, rfl⟩) ?_
    refine wpAny_take (i := 30) (v := undef) rfl (by kernel_rfl) (by kernel_rfl) (by kernel_rfl) (fun _ _ _ h => h) (Or.inr ⟨by kernel_rfl, rfl⟩) ?_
    refine wpAny_take (i := 31) (v := undef) rfl (by kernel_rfl) (by kernel_rfl) (by kernel_rfl) (fun _ _ _ h => h) (Or.inr ⟨by kernel_rfl, rfl⟩) ?_
    refine wpAny_take (i := 32) (v := undef) rfl (by kernel_rfl) (by kernel_rfl) (by kernel_rfl) (fun _ _ _ h => h) (Or.inr ⟨by kernel_rfl, rfl⟩) ?_
    refine wpAny_take (i := 33) (v := .bool true) rfl (by kernel_rfl) (by kernel_rfl) (by kernel_rfl) (fun _ _ _ h => h) (Or.inl ⟨by kernel_rfl, by intro w; kernel_rfl⟩) ?_
    refine wpAny_take (i := 34) (v := .bool true) rfl (by kernel_rfl) (by kernel_rfl) (by kernel_rfl) (fun _ _ _ h => h) (Or.inl ⟨by kernel_rfl, by intro w; kernel_rfl⟩) ?_
    refine wpAny_take (i := 35) (v := .bool true) rfl (by kernel_rfl) (by kernel_rfl) (by kernel_rfl) (fun _ _ _ h => h) (Or.inl ⟨by kernel_rfl, by intro w; kernel_rfl⟩) ?_
    refine wpAny_done (by kernel_rfl) ?_ _
    go_wp2_with fail
    go_ret
    exact ⟨by kernel_rfl, Kb.out⟩
  · rw [decide_eq_true (show s.size < 20 by omega), Bool.true_and] at HMn
    have a1 : decide ((m.size : Int) ≤ 20) = true := decide_eq_true (by omega)
    have a2 : ((s.size : Int) == 1) = false := by simp; omega
    replace HMn := Lib.hid HMn
    replace HMr := Lib.hid HMr
    obtain ⟨n, hn⟩ : ∃ n : Nat, s.size = n + 1 := ⟨s.size - 1, by omega⟩
    have hsub : IntKind.i64.wrap ((s.size : Int) - 1) = (n : Int) := by rw [hn]; exact (IntWalk.i64_in _ (by omega)).trans (by omega)
    have hnI : (n : Int) ≤ (s.size : Int) := by omega
    have HPn := fun w hT => name_c (s.extract 0 n) w hT (by rw [less_size (by omega)]; omega)
    have HPr := fun w hT => reserved_c (s.extract 0 n) w hT
    unfold Wrd.name at HPn
    rw [spelt_less HC.out (by omega) (by omega), Bool.true_and] at HPn
    generalize hp : s.extract 0 n = p at *
    generalize Wrd.key p = bp at *
    replace HPn := Lib.hid HPn
    replace HPr := Lib.hid HPr
    clear hn
    clear hmI hz3 hz4
    refine wp_region_any (by kernel_rfl) ?_
    change wpAny _ _ _ _ _ _ _ (World.drew _)
    refine wpAny_take (i := 0) (v := .bool true) rfl (by kernel_rfl) (by kernel_rfl) (by kernel_rfl) (fun _ _ _ h => h) (Or.inl ⟨by kernel_rfl, by intro w; kernel_rfl⟩) ?_
    refine wpAny_take (i := 1) (v := .bool true) rfl (by kernel_rfl) (by kernel_rfl) (by kernel_rfl) (fun _ _ _ h => h) (Or.inl ⟨by kernel_rfl, by intro w; kernel_rfl⟩) ?_
    refine wpAny_take (i := 2) (v := .string m) rfl (by kernel_rfl) (by kernel_rfl) (by kernel_rfl) (fun _ _ _ h => h) (Or.inl ⟨by kernel_rfl, by intro w; kernel_rfl⟩) ?_
    refine wpAny_take (i := 4) (v := .string m) rfl (by kernel_rfl) (by kernel_rfl) (by kernel_rfl) (fun _ _ _ h => h) (Or.inl ⟨by kernel_rfl, by intro w; kernel_rfl⟩) ?_
    refine wpAny_take (i := 5) (v := .int .i64 (m.size : Int)) rfl (by kernel_rfl) (by kernel_rfl) (by kernel_rfl) (fun _ _ _ h => h) (Or.inl ⟨by kernel_rfl, by intro w; kernel_rfl⟩) ?_
    refine wpAny_take (i := 6) (v := .bool true) rfl (by kernel_rfl) (by kernel_rfl) (by kernel_rfl) (fun _ _ _ h => h) (Or.inl ⟨by kernel_rfl, by intro w; exact (show _ = Result.ok (Next.value (.bool (decide ((m.size : Int) ≤ 20)))) w by kernel_rfl).trans (by rw [a1])⟩) ?_
    refine wpAny_ready (rs := [3]) (by kernel_rfl) (by simp) ?_
    refine AllReady.cons rfl (fun K hK => ?_) AllReady.nil
    go_simp
    go_wp2_with fail
    refine (HMn.out _ (TP.out.kept (Kept.refl _).drew)).mono ?_
    rintro e wa ⟨rfl, ka⟩
    have Ta := Lib.hid ((TP.out.kept (Kept.refl _).drew).kept ka)
    have Ka := Lib.hid (KP.out.drew.trans ka)
    clear ka
    dsimp only
    refine hK _ _ ?_
    clear hK K
    refine wpAny_take (i := 7) (v := .bool true) rfl (by kernel_rfl) (by kernel_rfl) (by kernel_rfl) (fun _ _ _ h => h) (Or.inl ⟨by kernel_rfl, by intro w; kernel_rfl⟩) ?_
    refine wpAny_take (i := 8) (v := .string m) rfl (by kernel_rfl) (by kernel_rfl) (by kernel_rfl) (fun _ _ _ h => h) (Or.inl ⟨by kernel_rfl, by intro w; kernel_rfl⟩) ?_
    refine wpAny_ready (rs := [9]) (by kernel_rfl) (by simp) ?_
    refine AllReady.cons rfl (fun K hK => ?_) AllReady.nil
    go_simp
    go_wp2_with fail
    refine (HMr.out _ (Ta.out)).mono ?_
    rintro e wb ⟨rfl, kb⟩
    have Tb' := Lib.hid ((Ta.out).kept kb)
    have Kb := Lib.hid (Ka.out.trans kb)
    clear kb
    dsimp only
    refine hK _ _ ?_
    clear hK K
    refine wpAny_take (i := 10) (v := .bool (!b)) rfl (by kernel_rfl) (by kernel_rfl) (by kernel_rfl) (fun _ _ _ h => h) (Or.inl ⟨by kernel_rfl, by intro w; kernel_rfl⟩) ?_
    refine wpAny_take (i := 11) (v := .bool (!b)) rfl (by kernel_rfl) (by kernel_rfl) (by kernel_rfl) (fun _ _ _ h => h) (Or.inl ⟨by kernel_rfl, by intro w; kernel_rfl⟩) ?_
    refine wpAny_take (i := 12) (v := .bool true) rfl (by kernel_rfl) (by kernel_rfl) (by kernel_rfl) (fun _ _ _ h => h) (Or.inl ⟨by kernel_rfl, by intro w; cases b <;> kernel_rfl⟩) ?_
    refine wpAny_take (i := 13) (v := .bool true) rfl (by kernel_rfl) (by kernel_rfl) (by kernel_rfl) (fun _ _ _ h => h) (Or.inl ⟨by kernel_rfl, by intro w; kernel_rfl⟩) ?_
    refine wpAny_take (i := 14) (v := .bool true) rfl (by kernel_rfl) (by kernel_rfl) (by kernel_rfl) (fun _ _ _ h => h) (Or.inl ⟨by kernel_rfl, by intro w; kernel_rfl⟩) ?_
    refine wpAny_take (i := 15) (v := .string s) rfl (by kernel_rfl) (by kernel_rfl) (by kernel_rfl) (fun _ _ _ h => h) (Or.inl ⟨by kernel_rfl, by intro w; kernel_rfl⟩) ?_
    refine wpAny_take (i := 16) (v := .int .i64 (s.size : Int)) rfl (by kernel_rfl) (by kernel_rfl) (by kernel_rfl) (fun _ _ _ h => h) (Or.inl ⟨by kernel_rfl, by intro w; kernel_rfl⟩) ?_
    refine wpAny_take (i := 17) (v := .bool false) rfl (by kernel_rfl) (by kernel_rfl) (by kernel_rfl) (fun _ _ _ h => h) (Or.inl ⟨by kernel_rfl, by intro w; exact (show _ = Result.ok (Next.value (.bool ((s.size : Int) == 1))) w by kernel_rfl).trans (by rw [a2])⟩) ?_
    refine wpAny_take (i := 18) (v := .bool false) rfl (by kernel_rfl) (by kernel_rfl) (by kernel_rfl) (fun _ _ _ h => h) (Or.inl ⟨by kernel_rfl, by intro w; kernel_rfl⟩) ?_
    refine wpAny_take (i := 19) (v := .string s) rfl (by kernel_rfl) (by kernel_rfl) (by kernel_rfl) (fun _ _ _ h => h) (Or.inl ⟨by kernel_rfl, by intro w; kernel_rfl⟩) ?_
    refine wpAny_take (i := 20) (v := .string s) rfl (by kernel_rfl) (by kernel_rfl) (by kernel_rfl) (fun _ _ _ h => h) (Or.inl ⟨by kernel_rfl, by intro w; kernel_rfl⟩) ?_
    refine wpAny_take (i := 21) (v := .int .i64 (s.size : Int)) rfl (by kernel_rfl) (by kernel_rfl) (by kernel_rfl) (fun _ _ _ h => h) (Or.inl ⟨by kernel_rfl, by intro w; kernel_rfl⟩) ?_
    refine wpAny_take (i := 22) (v := .int .i64 (n : Int)) rfl (by kernel_rfl) (by kernel_rfl) (by kernel_rfl) (fun _ _ _ h => h) (Or.inl ⟨by kernel_rfl, by intro w; exact (show _ = Result.ok (Next.value (.int .i64 (IntKind.i64.wrap ((s.size : Int) - 1)))) w by kernel_rfl).trans (by rw [hsub])⟩) ?_
    refine wpAny_take (i := 23) (v := .string p) rfl (by kernel_rfl) (by kernel_rfl) (by kernel_rfl) (fun _ _ _ h => h) (Or.inl ⟨by kernel_rfl, by intro w; exact sl_op _ _ _ _ s p n rfl (by kernel_rfl) (by kernel_rfl) hp hnI hs2 w⟩) ?_
    refine wpAny_take (i := 25) (v := .string s) rfl (by kernel_rfl) (by kernel_rfl) (by kernel_rfl) (fun _ _ _ h => h) (Or.inl ⟨by kernel_rfl, by intro w; kernel_rfl⟩) ?_
    refine wpAny_take (i := 26) (v := .string s) rfl (by kernel_rfl) (by kernel_rfl) (by kernel_rfl) (fun _ _ _ h => h) (Or.inl ⟨by kernel_rfl, by intro w; kernel_rfl⟩) ?_
    refine wpAny_take (i := 27) (v := .int .i64 (s.size : Int)) rfl (by kernel_rfl) (by kernel_rfl) (by kernel_rfl) (fun _ _ _ h => h) (Or.inl ⟨by kernel_rfl, by intro w; kernel_rfl⟩) ?_
    refine wpAny_take (i := 28) (v := .int .i64 (n : Int)) rfl (by kernel_rfl) (by kernel_rfl) (by kernel_rfl) (fun _ _ _ h => h) (Or.inl ⟨by kernel_rfl, by intro w; exact (show _ = Result.ok (Next.value (.int .i64 (IntKind.i64.wrap ((s.size : Int) - 1)))) w by kernel_rfl).trans (by rw [hsub])⟩) ?_
    refine wpAny_take (i := 29) (v := .string p) rfl (by kernel_rfl) (by kernel_rfl) (by kernel_rfl) (fun _ _ _ h => h) (Or.inl ⟨by kernel_rfl, by intro w; exact sl_op _ _ _ _ s p n rfl (by kernel_rfl) (by kernel_rfl) hp hnI hs2 w⟩) ?_
    refine wpAny_ready (rs := [24]) (by kernel_rfl) (by simp) ?_
    refine AllReady.cons rfl (fun K hK => ?_) AllReady.nil
    go_simp
    go_wp2_with fail
    refine (HPn.out _ (Tb'.out)).mono ?_
    rintro e wc ⟨rfl, kc⟩
    have Tc := Lib.hid ((Tb'.out).kept kc)
    have Kc := Lib.hid (Kb.out.trans kc)
    clear kc
    dsimp only
    refine hK _ _ ?_
    clear hK K
    refine wpAny_ready (rs := [30]) (by kernel_rfl) (by simp) ?_
    refine AllReady.cons rfl (fun K hK => ?_) AllReady.nil
    go_simp
    go_wp2_with fail
    refine (HPr.out _ (Tc.out)).mono ?_
    rintro e wd ⟨rfl, kd⟩
    have Td := Lib.hid ((Tc.out).kept kd)
    have Kd := Lib.hid (Kc.out.trans kd)
    clear kd
    dsimp only
    refine hK _ _ ?_
    clear hK K
    refine wpAny_take (i := 31) (v := .bool (!bp)) rfl (by kernel_rfl) (by kernel_rfl) (by kernel_rfl) (fun _ _ _ h => h) (Or.inl ⟨by kernel_rfl, by intro w; kernel_rfl⟩) ?_
    refine wpAny_take (i := 32) (v := .bool true) rfl (by kernel_rfl) (by kernel_rfl) (by kernel_rfl) (fun _ _ _ h => h) (Or.inl ⟨by kernel_rfl, by intro w; cases bp <;> kernel_rfl⟩) ?_
    refine wpAny_take (i := 33) (v := .bool true) rfl (by kernel_rfl) (by kernel_rfl) (by kernel_rfl) (fun _ _ _ h => h) (Or.inl ⟨by kernel_rfl, by intro w; kernel_rfl⟩) ?_
    refine wpAny_take (i := 34) (v := .bool true) rfl (by kernel_rfl) (by kernel_rfl) (by kernel_rfl) (fun _ _ _ h => h) (Or.inl ⟨by kernel_rfl, by intro w; kernel_rfl⟩) ?_
    refine wpAny_take (i := 35) (v := .bool true) rfl (by kernel_rfl) (by kernel_rfl) (by kernel_rfl) (fun _ _ _ h => h) (Or.inl ⟨by kernel_rfl, by intro w; kernel_rfl⟩) ?_
    refine wpAny_done (by kernel_rfl) ?_ _
    go_wp2_with fail
    go_ret
    exact ⟨by kernel_rfl, Kd.out⟩
  · rw [decide_eq_false (show ¬ s.size < 20 by omega), Bool.false_and] at HMn
    have a1 : decide ((m.size : Int) ≤ 20) = false := decide_eq_false (by omega)
    have a2 : ((s.size : Int) == 1) = false := by simp; omega
    replace HMn := Lib.hid HMn
    replace HMr := Lib.hid HMr
    obtain ⟨n, hn⟩ : ∃ n : Nat, s.size = n + 1 := ⟨s.size - 1, by omega⟩
    have hsub : IntKind.i64.wrap ((s.size : Int) - 1) = (n : Int) := by rw [hn]; exact (IntWalk.i64_in _ (by omega)).trans (by omega)
    have hnI : (n : Int) ≤ (s.size : Int) := by omega
    have HPn := fun w hT => name_c (s.extract 0 n) w hT (by rw [less_size (by omega)]; omega)
    have HPr := fun w hT => reserved_c (s.extract 0 n) w hT
    unfold Wrd.name at HPn
    rw [spelt_less HC.out (by omega) (by omega), Bool.true_and] at HPn
    generalize hp : s.extract 0 n = p at *
    generalize Wrd.key p = bp at *
    replace HPn := Lib.hid HPn
    replace HPr := Lib.hid HPr
    clear hn
    clear hmI hz
    refine wp_region_any (by kernel_rfl) ?_
    change wpAny _ _ _ _ _ _ _ (World.drew _)
    refine wpAny_take (i := 0) (v := .bool true) rfl (by kernel_rfl) (by kernel_rfl) (by kernel_rfl) (fun _ _ _ h => h) (Or.inl ⟨by kernel_rfl, by intro w; kernel_rfl⟩) ?_
    refine wpAny_take (i := 1) (v := .bool true) rfl (by kernel_rfl) (by kernel_rfl) (by kernel_rfl) (fun _ _ _ h => h) (Or.inl ⟨by kernel_rfl, by intro w; kernel_rfl⟩) ?_
    refine wpAny_take (i := 2) (v := .string m) rfl (by kernel_rfl) (by kernel_rfl) (by kernel_rfl) (fun _ _ _ h => h) (Or.inl ⟨by kernel_rfl, by intro w; kernel_rfl⟩) ?_
    refine wpAny_take (i := 4) (v := .string m) rfl (by kernel_rfl) (by kernel_rfl) (by kernel_rfl) (fun _ _ _ h => h) (Or.inl ⟨by kernel_rfl, by intro w; kernel_rfl⟩) ?_
    refine wpAny_take (i := 5) (v := .int .i64 (m.size : Int)) rfl (by kernel_rfl) (by kernel_rfl) (by kernel_rfl) (fun _ _ _ h => h) (Or.inl ⟨by kernel_rfl, by intro w; kernel_rfl⟩) ?_
    refine wpAny_take (i := 6) (v := .bool false) rfl (by kernel_rfl) (by kernel_rfl) (by kernel_rfl) (fun _ _ _ h => h) (Or.inl ⟨by kernel_rfl, by intro w; exact (show _ = Result.ok (Next.value (.bool (decide ((m.size : Int) ≤ 20)))) w by kernel_rfl).trans (by rw [a1])⟩) ?_
    refine wpAny_ready (rs := [3]) (by kernel_rfl) (by simp) ?_
    refine AllReady.cons rfl (fun K hK => ?_) AllReady.nil
    go_simp
    go_wp2_with fail
    refine (HMn.out _ (TP.out.kept (Kept.refl _).drew)).mono ?_
    rintro e wa ⟨rfl, ka⟩
    have Ta := Lib.hid ((TP.out.kept (Kept.refl _).drew).kept ka)
    have Ka := Lib.hid (KP.out.drew.trans ka)
    clear ka
    dsimp only
    refine hK _ _ ?_
    clear hK K
    refine wpAny_take (i := 7) (v := .bool false) rfl (by kernel_rfl) (by kernel_rfl) (by kernel_rfl) (fun _ _ _ h => h) (Or.inl ⟨by kernel_rfl, by intro w; kernel_rfl⟩) ?_
    refine wpAny_take (i := 8) (v := undef) rfl (by kernel_rfl) (by kernel_rfl) (by kernel_rfl) (fun _ _ _ h => h) (Or.inr ⟨by kernel_rfl, rfl⟩) ?_
    refine wpAny_take (i := 9) (v := undef) rfl (by kernel_rfl) (by kernel_rfl) (by kernel_rfl) (fun _ _ _ h => h) (Or.inr ⟨by kernel_rfl, rfl⟩) ?_
    refine wpAny_take (i := 10) (v := undef) rfl (by kernel_rfl) (by kernel_rfl) (by kernel_rfl) (fun _ _ _ h => h) (Or.inr ⟨by kernel_rfl, rfl⟩) ?_
    refine wpAny_take (i := 11) (v := .bool false) rfl (by kernel_rfl) (by kernel_rfl) (by kernel_rfl) (fun _ _ _ h => h) (Or.inl ⟨by kernel_rfl, by intro w; kernel_rfl⟩) ?_
    refine wpAny_take (i := 12) (v := .bool true) rfl (by kernel_rfl) (by kernel_rfl) (by kernel_rfl) (fun _ _ _ h => h) (Or.inl ⟨by kernel_rfl, by intro w; kernel_rfl⟩) ?_
    refine wpAny_take (i := 13) (v := .bool true) rfl (by kernel_rfl) (by kernel_rfl) (by kernel_rfl) (fun _ _ _ h => h) (Or.inl ⟨by kernel_rfl, by intro w; kernel_rfl⟩) ?_
    refine wpAny_take (i := 14) (v := .bool true) rfl (by kernel_rfl) (by kernel_rfl) (by kernel_rfl) (fun _ _ _ h => h) (Or.inl ⟨by kernel_rfl, by intro w; kernel_rfl⟩) ?_
    refine wpAny_take (i := 15) (v := .string s) rfl (by kernel_rfl) (by kernel_rfl) (by kernel_rfl) (fun _ _ _ h => h) (Or.inl ⟨by kernel_rfl, by intro w; kernel_rfl⟩) ?_
    refine wpAny_take (i := 16) (v := .int .i64 (s.size : Int)) rfl (by kernel_rfl) (by kernel_rfl) (by kernel_rfl) (fun _ _ _ h => h) (Or.inl ⟨by kernel_rfl, by intro w; kernel_rfl⟩) ?_
    refine wpAny_take (i := 17) (v := .bool false) rfl (by kernel_rfl) (by kernel_rfl) (by kernel_rfl) (fun _ _ _ h => h) (Or.inl ⟨by kernel_rfl, by intro w; exact (show _ = Result.ok (Next.value (.bool ((s.size : Int) == 1))) w by kernel_rfl).trans (by rw [a2])⟩) ?_
    refine wpAny_take (i := 18) (v := .bool false) rfl (by kernel_rfl) (by kernel_rfl) (by kernel_rfl) (fun _ _ _ h => h) (Or.inl ⟨by kernel_rfl, by intro w; kernel_rfl⟩) ?_
    refine wpAny_take (i := 19) (v := .string s) rfl (by kernel_rfl) (by kernel_rfl) (by kernel_rfl) (fun _ _ _ h => h) (Or.inl ⟨by kernel_rfl, by intro w; kernel_rfl⟩) ?_
    refine wpAny_take (i := 20) (v := .string s) rfl (by kernel_rfl) (by kernel_rfl) (by kernel_rfl) (fun _ _ _ h => h) (Or.inl ⟨by kernel_rfl, by intro w; kernel_rfl⟩) ?_
    refine wpAny_take (i := 21) (v := .int .i64 (s.size : Int)) rfl (by kernel_rfl) (by kernel_rfl) (by kernel_rfl) (fun _ _ _ h => h) (Or.inl ⟨by kernel_rfl, by intro w; kernel_rfl⟩) ?_
    refine wpAny_take (i := 22) (v := .int .i64 (n : Int)) rfl (by kernel_rfl) (by kernel_rfl) (by kernel_rfl) (fun _ _ _ h => h) (Or.inl ⟨by kernel_rfl, by intro w; exact (show _ = Result.ok (Next.value (.int .i64 (IntKind.i64.wrap ((s.size : Int) - 1)))) w by kernel_rfl).trans (by rw [hsub])⟩) ?_
    refine wpAny_take (i := 23) (v := .string p) rfl (by kernel_rfl) (by kernel_rfl) (by kernel_rfl) (fun _ _ _ h => h) (Or.inl ⟨by kernel_rfl, by intro w; exact sl_op _ _ _ _ s p n rfl (by kernel_rfl) (by kernel_rfl) hp hnI hs2 w⟩) ?_
    refine wpAny_take (i := 25) (v := .string s) rfl (by kernel_rfl) (by kernel_rfl) (by kernel_rfl) (fun _ _ _ h => h) (Or.inl ⟨by kernel_rfl, by intro w; kernel_rfl⟩) ?_
    refine wpAny_take (i := 26) (v := .string s) rfl (by kernel_rfl) (by kernel_rfl) (by kernel_rfl) (fun _ _ _ h => h) (Or.inl ⟨by kernel_rfl, by intro w; kernel_rfl⟩) ?_
    refine wpAny_take (i := 27) (v := .int .i64 (s.size : Int)) rfl (by kernel_rfl) (by kernel_rfl) (by kernel_rfl) (fun _ _ _ h => h) (Or.inl ⟨by kernel_rfl, by intro w; kernel_rfl⟩) ?_
    refine wpAny_take (i := 28) (v := .int .i64 (n : Int)) rfl (by kernel_rfl) (by kernel_rfl) (by kernel_rfl) (fun _ _ _ h => h) (Or.inl ⟨by kernel_rfl, by intro w; exact (show _ = Result.ok (Next.value (.int .i64 (IntKind.i64.wrap ((s.size : Int) - 1)))) w by kernel_rfl).trans (by rw [hsub])⟩) ?_
    refine wpAny_take (i := 29) (v := .string p) rfl (by kernel_rfl) (by kernel_rfl) (by kernel_rfl) (fun _ _ _ h => h) (Or.inl ⟨by kernel_rfl, by intro w; exact sl_op _ _ _ _ s p n rfl (by kernel_rfl) (by kernel_rfl) hp hnI hs2 w⟩) ?_
    refine wpAny_ready (rs := [24]) (by kernel_rfl) (by simp) ?_
    refine AllReady.cons rfl (fun K hK => ?_) AllReady.nil
    go_simp
    go_wp2_with fail
    refine (HPn.out _ (Ta.out)).mono ?_
    rintro e wc ⟨rfl, kc⟩
    have Tc := Lib.hid ((Ta.out).kept kc)
    have Kc := Lib.hid (Ka.out.trans kc)
    clear kc
    dsimp only
    refine hK _ _ ?_
    clear hK K
    refine wpAny_ready (rs := [30]) (by kernel_rfl) (by simp) ?_
    refine AllReady.cons rfl (fun K hK => ?_) AllReady.nil
    go_simp
    go_wp2_with fail
    refine (HPr.out _ (Tc.out)).mono ?_
    rintro e wd ⟨rfl, kd⟩
    have Td := Lib.hid ((Tc.out).kept kd)
    have Kd := Lib.hid (Kc.out.trans kd)
    clear kd
    dsimp only
    refine hK _ _ ?_
    clear hK K
    refine wpAny_take (i := 31) (v := .bool (!bp)) rfl (by kernel_rfl) (by kernel_rfl) (by kernel_rfl) (fun _ _ _ h => h) (Or.inl ⟨by kernel_rfl, by intro w; kernel_rfl⟩) ?_
    refine wpAny_take (i := 32) (v := .bool true) rfl (by kernel_rfl) (by kernel_rfl) (by kernel_rfl) (fun _ _ _ h => h) (Or.inl ⟨by kernel_rfl, by intro w; cases bp <;> kernel_rfl⟩) ?_
    refine wpAny_take (i := 33) (v := .bool true) rfl (by kernel_rfl) (by kernel_rfl) (by kernel_rfl) (fun _ _ _ h => h) (Or.inl ⟨by kernel_rfl, by intro w; kernel_rfl⟩) ?_
    refine wpAny_take (i := 34) (v := .bool true) rfl (by kernel_rfl) (by kernel_rfl) (by kernel_rfl) (fun _ _ _ h => h) (Or.inl ⟨by kernel_rfl, by intro w; kernel_rfl⟩) ?_
    refine wpAny_take (i := 35) (v := .bool true) rfl (by kernel_rfl) (by kernel_rfl) (by kernel_rfl) (fun _ _ _ h => h) (Or.inl ⟨by kernel_rfl, by intro w; kernel_rfl⟩) ?_
    refine wpAny_done (by kernel_rfl) ?_ _
    go_wp2_with fail
    go_ret
    exact ⟨by kernel_rfl, Kd.out⟩

end Go.Proofs.YtijflampkdpgfaaDoor
