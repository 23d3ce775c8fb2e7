/- The law ConsistTells: its walk over any table. -/
import Derived.Test.YthooiofaicdhgaaGreatDoorQRo7
import Derived.Test.YthooiofaicdhgaaGreatDoorQCpt
import Derived.Test.YthooiofaicdhgaaGreatDoorQCkn
import Derived.Test.YthooiofaicdhgaaGreatDoorQLgt
set_option linter.unusedSimpArgs false
set_option linter.unusedVariables false
set_option maxRecDepth 100000
namespace Go.Proofs.YthooiofaicdhgaaGreatDoor
open Go.ChangeShapes Go.WideShapes Go.ChangeAt Go.RowKit
theorem small_of_shortK {t : List Tab.C} (h : t.length ≤ 9 ∧ ∀ c ∈ t, ShortC c) : Small t :=
 ⟨by omega, fun c hc => by have := (h.2 c hc).1; omega, fun c hc => by have := (h.2 c hc).2.1; omega, fun c hc m hm => by have := (h.2 c hc).2.2 m hm; unfold ShortM at this; omega⟩
set_option maxHeartbeats 8000000 in
theorem tells7_c (t : List Tab.C) (a : Option Addr) (cp : Nat) (s u : ByteArray) (w : World) (hTb : Tb w) (h : TabAt w (.slice a t.length cp) t) (hs : s.size ≤ maxLen) (hu : u.size ≤ maxLen) :
  Calls Tryz.prog 4 #[.slice a t.length cp, .string s, .string u] w fun e w' => e = .returned (.bool true) ∧ Kept w w' := by
 have HTB := Lib.hid hTb
 have HT := Lib.hid h
 have HHS := Lib.hid hs
 have HHU := Lib.hid hu
 unfold maxLen at hs hu
 have HA := Lib.hid (fun (W : World) (k : Kept w W) => awake7_c W (hTb.kept k))
 clear hTb h
 go_enter Tryz.func4, Tryz.ntmps4
 go_wp2_with fail
 refine (long_c t (.slice a t.length cp) w HT.out).mono ?_
 rintro e w1 ⟨⟨lb, rfl, hsh⟩, k1⟩
 have HK1 := Lib.hid k1
 clear k1
 cases lb with
 | true =>
  clear hsh
  go_wp2_with fail
  refine (HA.out _ HK1.out).mono ?_
  rintro e w2 ⟨rfl, k2⟩
  go_wp2_with fail
  go_ret
  exact ⟨rfl, HK1.out.trans k2⟩
 | false =>
  have HSM := Lib.hid (small_of_shortK (hsh rfl))
  clear hsh
  go_wp2_with fail
  refine (copytable_c t a cp w1 (tab_kept HT.out HK1.out) HSM.out HSM.out.len).mono ?_
  rintro e w2 ⟨v, rfl, hown⟩
  have HIN := Lib.hid (hown.tab (tab_sz HT.out)).now
  obtain ⟨cs, _, _, _, k2⟩ := hown
  obtain ⟨va, vc, rfl, _⟩ := HIN.out
  have HK2 := Lib.hid (HK1.out.trans k2)
  clear k2
  have HHC := Lib.hid (fun (W : World) (k : Kept w2 W) => has_cc t va vc s u W (HTB.out.kept (HK2.out.trans k)) (tab_kept HIN.out k) HSM.out)
  have HHR := Lib.hid (fun (W : World) (k : Kept w2 W) => rhasH7_c t a cp s u W (tab_kept HT.out (HK2.out.trans k)) HSM.out)
  generalize Tab.has t s u = vH at HHC HHR
  have hbH : (vH == vH) = true := beq_self_eq_true _
  have HGC := Lib.hid (fun (W : World) (k : Kept w2 W) => goes_cc t va vc s u W (HTB.out.kept (HK2.out.trans k)) (tab_kept HIN.out k) HSM.out HHS.out HHU.out)
  have HGR := Lib.hid (fun (W : World) (k : Kept w2 W) => rgoes7_c t a cp s u W (tab_kept HT.out (HK2.out.trans k)) HSM.out)
  generalize Tab.goes t s u = vG at HGC HGR
  have hbG : (vG == vG) = true := beq_self_eq_true _
  have HSA := Lib.hid (fun (W : World) (k : Kept w2 W) => sameT_c t (.slice va t.length vc) (.slice a t.length cp) W (tab_kept HIN.out k) (tab_kept HT.out (HK2.out.trans k)))
  have HKK := Lib.hid (Kept.refl w2)
  go_wp2_with fail
  refine (HHC.out _ HKK.out).mono ?_
  rintro e w3 ⟨rfl, k3⟩
  have HK3 := Lib.hid (HKK.out.trans k3)
  clear k3
  go_wp2_with fail
  refine (HHR.out _ HK3.out).mono ?_
  rintro e w4 ⟨rfl, k4⟩
  have HK4 := Lib.hid (HK3.out.trans k4)
  clear k4
  go_wp2_with fail
  refine (HGC.out _ HK4.out).mono ?_
  rintro e w5 ⟨rfl, k5⟩
  have HK5 := Lib.hid (HK4.out.trans k5)
  clear k5
  go_wp2_with fail
  refine (HGR.out _ HK5.out).mono ?_
  rintro e w6 ⟨rfl, k6⟩
  have HK6 := Lib.hid (HK5.out.trans k6)
  clear k6
  go_wp2_with fail
  refine (HSA.out _ HK6.out).mono ?_
  rintro e w7 ⟨rfl, k7⟩
  have HK7 := Lib.hid (HK6.out.trans k7)
  clear k7
  go_wp2_with fail
  refine (HA.out _ (HK2.out.trans HK7.out)).mono ?_
  rintro e w8 ⟨rfl, k8⟩
  go_wp2_with fail
  go_ret
  exact ⟨rfl, (HK2.out.trans HK7.out).trans k8⟩
end Go.Proofs.YthooiofaicdhgaaGreatDoor
