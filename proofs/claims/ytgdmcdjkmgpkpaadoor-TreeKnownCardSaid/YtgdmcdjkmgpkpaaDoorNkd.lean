/- awake: three trees checked, one counted, one's depth; SameNode at the number 3. -/
import Derived.Test.YtgdmcdjkmgpkpaaDoorNkc
set_option linter.unusedSimpArgs false
set_option linter.unusedVariables false
set_option maxRecDepth 100000
namespace Go.Proofs.YtgdmcdjkmgpkpaaDoor
open Go.ChangeShapes Go.WideShapes Go.ChangeAt Go.RowKit

set_option maxHeartbeats 4000000 in
theorem sameN3 (a b : Option Addr) (c d : Nat) (w : World) : Calls Tryd.prog 13 #[ndV threeT (.slice a 0 c), ndV threeT (.slice b 0 d)] w fun e w' => e = .returned (.bool true) ∧ Kept w w' := by
  show Calls Tryd.prog 13 #[.agg #[.int .i64 7, .string ⟨#[]⟩, .string ⟨#[]⟩, .string ⟨#[]⟩, .int .i64 3, .slice a 0 c], .agg #[.int .i64 7, .string ⟨#[]⟩, .string ⟨#[]⟩, .string ⟨#[]⟩, .int .i64 3, .slice b 0 d]] w _
  go_enter Tryd.func13, Tryd.ntmps13
  go_wp2_with fail
  go_loopw [5] (fun i wr => i = .int .i64 0 ∧ wr = _) (fun i wr => 0)
  case atStart => exact ⟨rfl, rfl⟩
  case round =>
    obtain ⟨rfl, rfl⟩ := hrel
    go_wp2_with fail
    go_ret
    exact ⟨rfl, ((Kept.refl w).alloc _).alloc _⟩

theorem cnt3 : (progT threeT).count = 3 := by decide +kernel
theorem dep3 : (progT threeT).depth = 3 := by decide +kernel
theorem ok3 : threeT.ok1 := nd_ok _ _ _ _ _ _ (by decide) (by decide) (by decide) (by decide) (by decide)
theorem okP (x : Nd) : (progT x).ok1 := nd_ok _ _ _ _ _ _ (by decide) (by decide) (by decide) (by decide) (by decide)
theorem okK (k : Int) (hk : -9223372036854775808 ≤ k ∧ k ≤ 9223372036854775807) : (ndK k).ok1 := nd_ok _ _ _ _ _ _ hk (by decide) (by decide) (by decide) (by decide)

/-- What a call of program tells, and what its tree is then found to be. -/
def Prog (x : Nd) (w w' : World) (v : Value) : Prop := ∃ g, v = ndV (progT x) (.slice (some ⟨g, 0, none⟩) 1 1) ∧ KidsAt w' (.slice (some ⟨g, 0, none⟩) 1 1) [.mk 6 emS emS emS 0 [x]] ∧ Kept w w'
theorem awake_b (w : World) (hT : Tb w) : Calls Tryd.prog 9 #[] w fun e w' => e = .returned (.bool true) ∧ Kept w w' := by
  have HT := Lib.hid (fun W (k : Kept w W) => hT.kept k)
  have H3 := Lib.hid three_b
  clear hT
  go_enter Tryd.func9, Tryd.ntmps9
  go_wp2_with fail
  refine (three_b w).mono ?_
  rintro e w1 ⟨rfl, k1⟩
  have K1 := Lib.hid k1
  clear k1
  go_wp2_with fail
  refine (program_b threeT none 0 w1 ok3 (kids_nil w1)).mono ?_
  rintro e w2 ⟨g2, rfl, h2, k2⟩
  have K2 := Lib.hid (K1.out.trans k2)
  have HK2 := Lib.hid h2
  clear k2 h2
  go_wp2_with fail
  refine (checks_b (progT threeT) (some ⟨g2, 0, none⟩) 1 0 0 w2 (HT.out w2 K2.out) (okP _) HK2.out (by rw [cnt3]; decide) kx1).mono ?_
  rintro e w3 ⟨rfl, k3⟩
  have K3 := Lib.hid (K2.out.trans k3)
  clear k3
  go_wp2_with fail
  refine (node_b 6 none 0 0 w3).mono ?_
  rintro e w4 ⟨rfl, k4⟩
  have K4 := Lib.hid (K3.out.trans k4)
  clear k4
  go_wp2_with fail
  refine (checks_b (ndK 6) none 0 5 0 w4 (HT.out w4 K4.out) (okK 6 (by decide)) (kids_nil w4) (by decide +kernel) kx2).mono ?_
  rintro e w5 ⟨rfl, k5⟩
  have K5 := Lib.hid (K4.out.trans k5)
  clear k5
  go_wp2_with fail
  refine (named_b 14 ⟨#[73, 102]⟩ ⟨#[]⟩ none 0 0 w5).mono ?_
  rintro e w6 ⟨rfl, k6⟩
  have K6 := Lib.hid (K5.out.trans k6)
  clear k6
  go_wp2_with fail
  refine (program_b (ndT 14 ⟨#[73, 102]⟩ emS []) none 0 w6 (nd_ok _ _ _ _ _ _ (by decide) (by decide) (by decide) (by decide) (by decide)) (kids_nil w6)).mono ?_
  rintro e w7 ⟨g7, rfl, h7, k7⟩
  have K7 := Lib.hid (K6.out.trans k7)
  have HK7 := Lib.hid h7
  clear k7 h7
  go_wp2_with fail
  refine (checks_b (progT (ndT 14 ⟨#[73, 102]⟩ emS [])) (some ⟨g7, 0, none⟩) 1 6 2 w7 (HT.out w7 K7.out) (okP _) HK7.out (by decide +kernel) kx3).mono ?_
  rintro e w8 ⟨rfl, k8⟩
  have K8 := Lib.hid (K7.out.trans k8)
  clear k8
  go_wp2_with fail
  refine (three_b w8).mono ?_
  rintro e w9 ⟨rfl, k9⟩
  have K9 := Lib.hid (K8.out.trans k9)
  clear k9
  go_wp2_with fail
  refine (program_b threeT none 0 w9 ok3 (kids_nil w9)).mono ?_
  rintro e wa ⟨ga, rfl, ha, ka⟩
  have KA := Lib.hid (K9.out.trans ka)
  have HKA := Lib.hid ha
  clear ka ha
  go_wp2_with fail
  refine (count_c (progT threeT) (some ⟨ga, 0, none⟩) 1 wa (okP _) HKA.out (by rw [cnt3]; decide)).mono ?_
  rintro e wb ⟨rfl, kb⟩
  rw [cnt3]
  have KB := Lib.hid (KA.out.trans kb)
  clear kb
  go_wp2_with fail
  refine (three_b wb).mono ?_
  rintro e wc ⟨rfl, kc⟩
  have KC := Lib.hid (KB.out.trans kc)
  clear kc
  go_wp2_with fail
  refine (program_b threeT none 0 wc ok3 (kids_nil wc)).mono ?_
  rintro e wd ⟨gd, rfl, hd, kd⟩
  have KD := Lib.hid (KC.out.trans kd)
  have HKD := Lib.hid hd
  clear kd hd
  go_wp2_with fail
  refine (depth_c (progT threeT) (some ⟨gd, 0, none⟩) 1 wd (okP _) HKD.out (by rw [cnt3]; decide)).mono ?_
  rintro e we ⟨rfl, ke⟩
  rw [dep3]
  have KE := Lib.hid (KD.out.trans ke)
  clear ke
  go_wp2_with fail
  go_ret
  exact ⟨rfl, KE.out⟩

end Go.Proofs.YtgdmcdjkmgpkpaaDoor
