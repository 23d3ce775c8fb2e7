/- The statement ChainSees: its walk over any chain. -/
import Derived.Test.YtjfhfalhcmgaaaaCht
import Derived.Test.YtjfhfalhcmgaaaaChy
import Derived.Test.YtjfhfalhcmgaaaaKtt
set_option linter.unusedSimpArgs false
set_option linter.unusedVariables false
set_option maxRecDepth 100000
namespace Go.Proofs.Ytjfhfalhcmgaaaa
open Go.ChangeShapes Go.WideShapes Go.ChangeAt Go.RowKit

set_option maxHeartbeats 8000000 in
theorem sees_c (own : ByteArray) (l : List Ly) (a : Option Addr) (cp : Nat) (n : Int) (w : World) (h : LysAt w (.slice a l.length cp) l) (hown : own.size ≤ maxLen) (p1 : -9223372036854775808 ≤ n) (q1 : n ≤ 9223372036854775807) :
    Calls Try.prog 4 #[.string own, .slice a l.length cp, .int .i64 n] w fun e w' => e = .returned (.bool true) ∧ Kept w w' := by
  have HH := Lib.hid h
  have HF := Lib.hid (lys_fine h)
  have HL := Lib.hid (longL_c l _ w h)
  have HAW := Lib.hid awake_c
  clear h
  go_enter Try.func4, Try.ntmps4
  go_wp2_with fail
  refine HL.out.mono ?_
  rintro e w1 ⟨⟨lb, rfl, hsh⟩, hw1⟩
  subst hw1
  cases lb with
  | true =>
    clear hsh HL
    go_wp2_with fail
    refine (HAW.out _).mono ?_
    rintro e w2 ⟨rfl, k2⟩
    have HK2 := Lib.hid k2
    clear k2
    go_wp2_with fail
    go_ret
    exact ⟨rfl, HK2.out⟩
  | false =>
    obtain ⟨hl30, hsh60⟩ := hsh rfl
    clear hsh HL hsh60
    by_cases ho : 60 < own.size
    · have hoI : (60 : Int) < (own.size : Int) := by omega
      go_wp2_with fail
      refine (HAW.out _).mono ?_
      rintro e w2 ⟨rfl, k2⟩
      have HK2 := Lib.hid k2
      clear k2
      go_wp2_with fail
      go_ret
      exact ⟨rfl, HK2.out⟩
    · have hoI : ¬ (60 : Int) < (own.size : Int) := by omega
      have HC := Lib.hid (copyL_c l _ w1 HH.out (by omega))
      go_wp2_with fail
      refine HC.out.mono ?_
      rintro e w2 ⟨v2, rfl, o2, k2⟩
      have HIN := Lib.hid (owns_lys o2 HF.out)
      have HKA := Lib.hid k2
      obtain ⟨ia, ic, rfl⟩ := owns_slice_nL o2
      have HT := Lib.hid (classes_c own l _ w2 HIN.out (by omega) hown)
      have HB := Lib.hid (fun W => bound_c n W p1 q1)
      have HRB := Lib.hid (fun W => rbound_c n W p1 q1)
      obtain ⟨bv, hbv⟩ : ∃ b, bndV n = b := ⟨_, rfl⟩
      rw [hbv] at HB HRB
      obtain ⟨tl, htl⟩ : ∃ t, clsL own l = t := ⟨_, rfl⟩
      have HTL := Lib.hid htl
      have htn : tl.length ≤ 31 := by have := clsL_len own l; rw [htl] at this; omega
      rw [htl] at HT
      clear o2 k2 HC hbv htl
      go_wp2_with fail
      refine HT.out.mono ?_
      rintro e w3 ⟨⟨ta, tc, rfl, o3⟩, k3⟩
      have HO3 := Lib.hid o3
      have HK3 := Lib.hid k3
      clear o3 k3 HT
      go_wp2_with fail
      refine (HB.out _).mono ?_
      rintro e wb ⟨rfl, hwb⟩
      subst hwb
      go_wp2_with fail
      refine (HRB.out _).mono ?_
      rintro e wb2 ⟨rfl, hwb⟩
      subst hwb
      have HRC := Lib.hid (rclasses_c own l _ wb2 (lys_kept HH.out (HKA.out.trans HK3.out)) (by omega))
      rw [HTL.out] at HRC
      go_wp2_with fail
      refine HRC.out.mono ?_
      rintro e w4 ⟨⟨ra, rc, rfl, o4⟩, k4⟩
      have HS := Lib.hid (sameT_c tl tl _ _ w4 (owns_txs (owns_keptL HO3.out k4)) (owns_txs o4))
      rw [show decide (tl = tl) = true from decide_eq_true rfl] at HS
      have HK4 := Lib.hid (HK3.out.trans k4)
      have HO4 := Lib.hid (owns_keptL HO3.out k4)
      clear o4 k4 HRC HO3
      go_wp2_with fail
      refine HS.out.mono ?_
      rintro e w5 ⟨rfl, k5⟩
      have HK5 := Lib.hid (HK4.out.trans k5)
      have HO5 := Lib.hid (owns_keptL HO4.out k5)
      have HS1 := Lib.hid (seen_c own l _ w5 (lys_kept HIN.out HK5.out))
      have HS2 := Lib.hid (rseen_c own l _ w5 (lys_kept HH.out (HKA.out.trans HK5.out)))
      generalize seenV own l = sv at HS1 HS2
      have hsv : (sv.toList == sv.toList) = true := beq_self_eq_true _
      clear k5 HS HO4
      go_wp2_with fail
      refine HS1.out.mono ?_
      rintro e wc ⟨rfl, hwc⟩
      subst hwc
      go_wp2_with fail
      refine HS2.out.mono ?_
      rintro e wd ⟨rfl, hwd⟩
      subst hwd
      have HOV := Lib.hid (overX_c w2.heap.size tl.length _ _ wd HO5.out)
      clear HS1 HS2
      go_wp2_with fail
      refine HOV.out.mono ?_
      rintro e w6 ⟨rfl, ho6⟩
      have HK6 := Lib.hid (HK5.out.only ho6 rfl (fun j e => e.1))
      have HS := Lib.hid (sameL_c l l _ _ w6 (lys_kept HIN.out HK6.out) (lys_kept HH.out (HKA.out.trans HK6.out)))
      rw [show decide (l = l) = true from decide_eq_true rfl] at HS
      clear ho6 HOV HO5
      go_wp2_with fail
      refine HS.out.mono ?_
      rintro e w7 ⟨rfl, k7⟩
      have HK7 := Lib.hid (HK6.out.trans k7)
      clear k7 HS
      go_wp2_with fail
      refine (HAW.out _).mono ?_
      rintro e w8 ⟨rfl, k8⟩
      have HK8 := Lib.hid ((HKA.out.trans HK7.out).trans k8)
      clear k8
      go_wp2_with fail
      go_ret
      exact ⟨rfl, HK8.out⟩

theorem sees_cc (own : ByteArray) (l : List Ly) (a : Option Addr) (cp : Nat) (n : Int) (w : World) (hown : own.size ≤ maxLen) (h : LysAt w (.slice a l.length cp) l) (p1 : -9223372036854775808 ≤ n) (q1 : n ≤ 9223372036854775807) :
    Calls Try.prog 4 #[.string own, .slice a l.length cp, .int .i64 n] w fun e w' => e = .returned (.bool true) ∧ Kept w w' := sees_c own l a cp n w h hown p1 q1

end Go.Proofs.Ytjfhfalhcmgaaaa
