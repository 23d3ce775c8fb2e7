/- The law SubtypeTells: its walk over any table. -/
import Derived.Test.YthooiofaicdhgaaGreatDoorRfj
import Derived.Test.YthooiofaicdhgaaGreatDoorCpt
import Derived.Test.YthooiofaicdhgaaGreatDoorSkn
import Derived.Test.YthooiofaicdhgaaGreatDoorLgt
set_option linter.unusedSimpArgs false
set_option linter.unusedVariables false
set_option maxRecDepth 100000
namespace Go.Proofs.YthooiofaicdhgaaGreatDoor
open Go.ChangeShapes Go.WideShapes Go.ChangeAt Go.RowKit

theorem small_of_shortT {t : List Tab.C} (h : t.length ≤ 9 ∧ ∀ c ∈ t, ShortC c) : Small t :=
  ⟨by omega, fun c hc => by have := (h.2 c hc).1; omega, fun c hc => by have := (h.2 c hc).2.1; omega, fun c hc m hm => by have := (h.2 c hc).2.2 m hm; unfold ShortM at this; omega⟩

theorem overL_c {w : World} {base n : Nat} {v : Value} {xs : List Value} (h : w.ownsRow base 9 1 v n xs) :
    Calls Tryz.prog 27 #[v] w fun e w' => e = .returned (.tuple #[]) ∧ Only (fun k => base ≤ k) w w' := by
  rcases h.2 with ⟨rfl, rfl⟩ | ⟨g, cap, cur, rfl, hg1, hg2, hg3, hg4, hg5, hg6⟩
  · clear h
    go_enter Tryz.func27, Tryz.ntmps27
    go_wp2
    go_loopw [2] (fun i wr => i = .int .i64 0 ∧ wr = w) (fun i wr => 0)
    case atStart => exact ⟨rfl, rfl⟩
    case round =>
      obtain ⟨rfl, rfl⟩ := hrel
      go_wp2
      go_returns
      exact ⟨rfl, Only.refl _ _⟩
  · refine (over_c g cap n w (by unfold maxLen at hg4; omega) ⟨cur, hg2, by omega⟩).mono ?_
    rintro e w' ⟨rfl, ho⟩
    exact ⟨rfl, ho.mono fun k _ e => by subst e; exact hg1⟩

theorem row_kept {w w' : World} {base k n : Nat} {e : TypeId} {v : Value} {xs : List Value} (h : w.ownsRow base e k v n xs) (q : Kept w w') : w'.ownsRow base e k v n xs :=
  owns_only (S := fun _ => False) h (Only.of_kept q) (fun _ _ h => h)

set_option maxHeartbeats 8000000 in
theorem tells6_c (t : List Tab.C) (a : Option Addr) (cp : Nat) (s u : ByteArray) (w : World) (hTb : Tb w) (h : TabAt w (.slice a t.length cp) t) (hs : s.size ≤ maxLen) (hu : u.size ≤ maxLen) :
    Calls Tryz.prog 3 #[.slice a t.length cp, .string s, .string u] w fun e w' => e = .returned (.bool true) ∧ Kept w w' := by
  have HTB := Lib.hid hTb
  have HT := Lib.hid h
  unfold maxLen at hs hu
  have HA := Lib.hid (fun (W : World) (k : Kept w W) => awake6_c W (hTb.kept k))
  clear hTb h
  go_enter Tryz.func3, Tryz.ntmps3
  go_wp2_with fail
  refine (long_c t (.slice a t.length cp) w HT.out).mono ?_
  rintro e w1 ⟨⟨lb, rfl, hsh⟩, k1⟩
  have HK1 := Lib.hid k1
  clear k1
  cases lb with
  | true =>
    clear hsh
    go_wp2_with fail
    refine (HA.out _ HK1.out).mono ?_
    rintro e w2 ⟨rfl, k2⟩
    go_wp2_with fail
    go_ret
    exact ⟨rfl, HK1.out.trans k2⟩
  | false =>
    have HSM := Lib.hid (small_of_shortT (hsh rfl))
    clear hsh
    by_cases hs60 : (60 : Int) < (s.size : Int)
    · go_wp2_with fail
      refine (HA.out _ HK1.out).mono ?_
      rintro e w2 ⟨rfl, k2⟩
      go_wp2_with fail
      go_ret
      exact ⟨rfl, HK1.out.trans k2⟩
    · by_cases hu60 : (60 : Int) < (u.size : Int)
      · go_wp2_with fail
        refine (HA.out _ HK1.out).mono ?_
        rintro e w2 ⟨rfl, k2⟩
        go_wp2_with fail
        go_ret
        exact ⟨rfl, HK1.out.trans k2⟩
      · go_wp2_with fail
        refine (copytable_c t a cp w1 (tab_kept HT.out HK1.out) HSM.out HSM.out.len).mono ?_
        rintro e w2 ⟨v, rfl, hown⟩
        have HIN := Lib.hid (hown.tab (tab_sz HT.out)).now
        obtain ⟨cs, _, _, _, k2⟩ := hown
        obtain ⟨va, vc, rfl, _⟩ := HIN.out
        have HK2 := Lib.hid (HK1.out.trans k2)
        clear k2
        have HJ := Lib.hid (join_c t va vc s u w2 (HTB.out.kept HK2.out) HIN.out HSM.out)
        have HRJ := Lib.hid (fun (W : World) (k : Kept w2 W) => rjoin6_c t a cp s u W (tab_kept HT.out (HK2.out.trans k)) HSM.out)
        unfold joinV at HJ
        generalize (Tab.join t s u).getD ⟨#[]⟩ = jx at HJ HRJ
        generalize (Tab.join t s u).isSome = jb at HJ HRJ
        have hjx : (jx.toList == jx.toList) = true := beq_self_eq_true _
        have hjb : (jb == jb) = true := beq_self_eq_true _
        have HSC := Lib.hid (fun (W : World) (k : Kept w2 W) => sub_c t va vc s u W (HTB.out.kept (HK2.out.trans k)) (tab_kept HIN.out k) HSM.out)
        have HSR := Lib.hid (fun (W : World) (k : Kept w2 W) => rsub6_c t a cp s u W (tab_kept HT.out (HK2.out.trans k)) HSM.out)
        generalize Tab.sub t s u = sb at HSC HSR
        have hsb : (sb == sb) = true := beq_self_eq_true _
        have HLC := Lib.hid (fun (W : World) (k : Kept w2 W) => leaf_c t va vc s W (HTB.out.kept (HK2.out.trans k)) (tab_kept HIN.out k) HSM.out)
        have HLR := Lib.hid (fun (W : World) (k : Kept w2 W) => rleaf_c t a cp s W (tab_kept HT.out (HK2.out.trans k)) HSM.out)
        generalize Tab.leaf t s = lf at HLC HLR
        have hlf : (lf == lf) = true := beq_self_eq_true _
        have HBC := Lib.hid (fun (W : World) (k : Kept w2 W) => below_c t va vc s W (HTB.out.kept (HK2.out.trans k)) (tab_kept HIN.out k) HSM.out)
        have HBR := Lib.hid (fun (W : World) (k : Kept w2 W) => rbelow_c t a cp s W (tab_kept HT.out (HK2.out.trans k)) HSM.out)
        generalize Tab.below t s = bl at HBC HBR
        have HSA := Lib.hid (fun (W : World) (k : Kept w2 W) => sameT_c t (.slice va t.length vc) (.slice a t.length cp) W (tab_kept HIN.out k) (tab_kept HT.out (HK2.out.trans k)))
        go_wp2_with fail
        refine HJ.out.mono ?_
        rintro e w3 ⟨rfl, k3⟩
        have HK3 := Lib.hid k3
        clear k3
        go_wp2_with fail
        refine (HRJ.out _ HK3.out).mono ?_
        rintro e w4 ⟨rfl, k4⟩
        have HK4 := Lib.hid (HK3.out.trans k4)
        clear k4
        go_wp2_with fail
        refine (HBC.out _ HK4.out).mono ?_
        rintro e w5 ⟨v5, rfl, hr5, k5⟩
        have HK5 := Lib.hid (HK4.out.trans k5)
        have HR5 := Lib.hid hr5
        obtain ⟨va5, vc5, rfl⟩ := owns_slice_n hr5
        clear hr5 k5
        go_wp2_with fail
        refine (HSC.out _ HK5.out).mono ?_
        rintro e w6 ⟨rfl, k6⟩
        have HK6 := Lib.hid (HK5.out.trans k6)
        have HR6 := Lib.hid (row_kept HR5.out k6)
        clear k6
        go_wp2_with fail
        refine (HSR.out _ HK6.out).mono ?_
        rintro e w7 ⟨rfl, k7⟩
        have HK7 := Lib.hid (HK6.out.trans k7)
        have HR7 := Lib.hid (row_kept HR6.out k7)
        clear k7
        go_wp2_with fail
        refine (HBR.out _ HK7.out).mono ?_
        rintro e w8 ⟨v8, rfl, hr8, k8⟩
        have HK8 := Lib.hid (HK7.out.trans k8)
        have HR8 := Lib.hid (row_kept HR7.out k8)
        have HST := Lib.hid (sameTexts_y bl (.slice va5 bl.length vc5) v8 w8 (txt_row HR8.out) (txt_row hr8))
        obtain ⟨va8, vc8, rfl⟩ := owns_slice_n hr8
        clear hr8 k8
        go_wp2_with fail
        refine HST.out.mono ?_
        rintro e w9 ⟨rfl, k9⟩
        have HK9 := Lib.hid (HK8.out.trans k9)
        have HR9 := Lib.hid (row_kept HR8.out k9)
        clear k9
        go_wp2_with fail
        refine (HLC.out _ HK9.out).mono ?_
        rintro e wa ⟨rfl, ka⟩
        have HKa := Lib.hid (HK9.out.trans ka)
        have HRa := Lib.hid (row_kept HR9.out ka)
        clear ka
        go_wp2_with fail
        refine (HLR.out _ HKa.out).mono ?_
        rintro e wb ⟨rfl, kb⟩
        have HKb := Lib.hid (HKa.out.trans kb)
        have HRb := Lib.hid (row_kept HRa.out kb)
        clear kb
        go_wp2_with fail
        refine (overL_c HRb.out).mono ?_
        rintro e wc ⟨rfl, oc⟩
        have HKc := Lib.hid (show Kept w2 wc from HKb.out.only oc rfl fun k hk => Nat.le_trans HK4.out.size hk)
        clear oc
        go_wp2_with fail
        refine (HSA.out _ HKc.out).mono ?_
        rintro e wd ⟨rfl, kd⟩
        have HKd := Lib.hid (HKc.out.trans kd)
        clear kd
        go_wp2_with fail
        refine (HA.out _ (HK2.out.trans HKd.out)).mono ?_
        rintro e we ⟨rfl, ke⟩
        go_wp2_with fail
        go_ret
        exact ⟨rfl, (HK2.out.trans HKd.out).trans ke⟩

end Go.Proofs.YthooiofaicdhgaaGreatDoor
