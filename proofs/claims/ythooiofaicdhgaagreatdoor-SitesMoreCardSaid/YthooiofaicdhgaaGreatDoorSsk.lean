/- The chapter's table and sites, made by the law's own helpers, and its examples. -/
import Derived.Test.YthooiofaicdhgaaGreatDoorSst
import Derived.Test.YthooiofaicdhgaaGreatDoorSsc
import Derived.Test.YthooiofaicdhgaaGreatDoorPkn
set_option linter.unusedSimpArgs false
set_option linter.unusedVariables false
set_option maxRecDepth 100000
namespace Go.Proofs.YthooiofaicdhgaaGreatDoor
open Go.ChangeShapes Go.WideShapes Go.ChangeAt Go.RowKit

abbrev c9 (n r : List UInt8) : Tab.C := ⟨t8 n, t8 [], [], [⟨t8 [109], [], t8 r⟩]⟩
abbrev T9 : List Tab.C := [c9 [65] [105, 110, 116], c9 [66] [63]]
theorem t9_small : Small T9 := ⟨by decide, by decide, by decide, by decide⟩
abbrev s9 (q : Int) (a b : List UInt8) : Tab.St := ⟨q, t8 a, t8 b⟩
abbrev F9 : List Tab.St := [s9 1 [63] [65], s9 1 [66] [65], s9 1 [66] [65], s9 5 [63] [63]]

theorem row_2 {α : Type} {k : Nat} {R : World → Nat → Nat → α → Prop} {w : World} {g : Nat} {x y : α} (h : R w g 0 x) (h2 : R w g k y) : Row k R w (.slice (some ⟨g, 0, none⟩) 2 2) [x, y] :=
  ⟨_, 2, rfl, Nat.le_refl _, by decide, fun i a ha => by
    match i, ha with
    | 0, ha => cases ha; exact ⟨g, 0, rfl, by simpa using h⟩
    | 1, ha => cases ha; exact ⟨g, 0, rfl, by simpa using h2⟩⟩
theorem cls9 {W : World} {g o b : Nat} {cs : Array Value} {n r : List UInt8} (h : Blk W g 46 cs) (h0 : cs[o]? = some (.string (t8 n))) (h1 : cs[o + 1]? = some (.string (t8 []))) (h2 : cs[o + 2]? = some (.slice none 0 0)) (h3 : cs[o + 3]? = some (.slice (some ⟨b, 0, none⟩) 1 1))
    (hm : Blk W b 53 #[.string (t8 [109]), .slice none 0 0, .string (t8 r)]) (hn : n.length ≤ 100) (hr : r.length ≤ 100) : ClsAt W g o (c9 n r) :=
  ⟨(h.cell o).trans h0, (h.cell (o + 1)).trans h1, ⟨_, (h.cell (o + 2)).trans h2, Row.nil⟩, ⟨_, (h.cell (o + 3)).trans h3, row_1 ⟨hm.cell 0, ⟨_, hm.cell 1, Row.nil⟩, hm.cell 2, sz8 _ (by decide), sz8 _ hr⟩⟩, sz8 _ hn, sz8 _ (by decide)⟩
theorem site9 {W : World} {g o : Nat} {cs : Array Value} {q : Int} {a b : List UInt8} (h : Blk W g 80 cs) (h0 : cs[o]? = some (.int .i64 q)) (h1 : cs[o + 1]? = some (.string (t8 a))) (h2 : cs[o + 2]? = some (.string (t8 b))) (ha : a.length ≤ 100) (hb : b.length ≤ 100) : SiteAt W g o (s9 q a b) :=
  ⟨(h.cell o).trans h0, (h.cell (o + 1)).trans h1, (h.cell (o + 2)).trans h2, sz8 _ ha, sz8 _ hb⟩

def TwoOut (w : World) (e : Ending) (w' : World) : Prop := ∃ g, e = .returned (.slice (some ⟨g, 0, none⟩) 2 2) ∧ TabAt w' (.slice (some ⟨g, 0, none⟩) 2 2) T9 ∧ Kept w w'
def FourS (w : World) (e : Ending) (w' : World) : Prop := ∃ g, e = .returned (.slice (some ⟨g, 0, none⟩) 4 4) ∧ SitesAt w' (.slice (some ⟨g, 0, none⟩) 4 4) F9 ∧ Kept w w'

set_option maxHeartbeats 4000000 in
theorem two9_c (w : World) : Calls Tryz.prog 62 #[] w (TwoOut w) := by
  go_enter Tryz.func62, Tryz.ntmps62
  go_wp2_with fail
  go_ret
  have M1 := Blk.new w 53 #[.string (t8 [109]), .slice none 0 0, .string (t8 [105, 110, 116])]
  have M2 := Blk.new (w.alloc (.cells #[.string (t8 [109]), .slice none 0 0, .string (t8 [105, 110, 116])] 53)) 53 #[.string (t8 [109]), .slice none 0 0, .string (t8 [63])]
  rw [World.size_alloc] at M2
  have N := Blk.new ((w.alloc (.cells #[.string (t8 [109]), .slice none 0 0, .string (t8 [105, 110, 116])] 53)).alloc (.cells #[.string (t8 [109]), .slice none 0 0, .string (t8 [63])] 53)) 46 #[.string (t8 [65]), .string (t8 []), .slice none 0 0, .slice (some ⟨w.heap.size, 0, none⟩) 1 1, .string (t8 [66]), .string (t8 []), .slice none 0 0, .slice (some ⟨w.heap.size + 1, 0, none⟩) 1 1]
  rw [World.size_alloc, World.size_alloc] at N
  exact ⟨_, rfl, row_2 (cls9 N rfl rfl rfl rfl ((M1.alloc _).alloc _) (by decide) (by decide)) (cls9 N rfl rfl rfl rfl (M2.alloc _) (by decide) (by decide)), (((Kept.refl w).alloc _).alloc _).alloc _⟩

set_option maxHeartbeats 4000000 in
theorem four9_c (w : World) : Calls Tryz.prog 63 #[] w (FourS w) := by
  go_enter Tryz.func63, Tryz.ntmps63
  go_wp2_with fail
  go_ret
  have N := Blk.new w 80 #[.int .i64 1, .string (t8 [63]), .string (t8 [65]), .int .i64 1, .string (t8 [66]), .string (t8 [65]), .int .i64 1, .string (t8 [66]), .string (t8 [65]), .int .i64 5, .string (t8 [63]), .string (t8 [63])]
  exact ⟨_, rfl, row_4 (site9 N rfl rfl rfl (by decide) (by decide)) (site9 N rfl rfl rfl (by decide) (by decide)) (site9 N rfl rfl rfl (by decide) (by decide)) (site9 N rfl rfl rfl (by decide) (by decide)), (Kept.refl w).alloc _⟩

/-- A helper's answer: yes. -/
def Yes (w : World) (e : Ending) (w' : World) : Prop := e = .returned (.bool true) ∧ Kept w w'

set_option maxHeartbeats 4000000 in
theorem checks9_c (q er : Int) (a b : List UInt8) (ha : a.length ≤ 100) (hb : b.length ≤ 100) (hv : Tab.sitesV T9 [s9 q a b] = (er, 0)) (w : World) (hT : Tb w) :
    Calls Tryz.prog 64 #[.int .i64 q, .string (t8 a), .string (t8 b), .int .i64 er] w (Yes w) := by
  have HT := Lib.hid hT
  have HV := Lib.hid hv
  obtain ⟨xa, hxa⟩ : ∃ xa, t8 a = xa := ⟨_, rfl⟩
  obtain ⟨xb, hxb⟩ : ∃ xb, t8 b = xb := ⟨_, rfl⟩
  have hza := sz8 a ha
  have hzb := sz8 b hb
  rw [hxa] at hza ⊢
  rw [hxb] at hzb ⊢
  rw [show s9 q a b = ⟨q, xa, xb⟩ by unfold s9; rw [hxa, hxb]] at HV
  have HZA := Lib.hid hza
  have HZB := Lib.hid hzb
  clear hT hv hxa hxb hza hzb
  unfold Yes
  go_enter Tryz.func64, Tryz.ntmps64
  go_wp2_with fail
  refine (two9_c w).mono ?_
  rintro e w1 ⟨g, rfl, hm, k1⟩
  have HM := Lib.hid hm
  have HK := Lib.hid k1
  have hN := Blk.new w1 80 #[.int .i64 q, .string xa, .string xb]
  have HC := Lib.hid (checkS_c T9 (some ⟨g, 0, none⟩) 2 [⟨q, xa, xb⟩] (some ⟨w1.heap.size, 0, none⟩) 1 (w1.alloc (.cells #[.int .i64 q, .string xa, .string xb] 80)) ((HT.out.kept k1).kept ((Kept.refl _).alloc _)) (tab_kept hm ((Kept.refl _).alloc _)) t9_small
    (row_1 ⟨hN.cell 0, hN.cell 1, hN.cell 2, HZA.out, HZB.out⟩))
  rw [HV.out] at HC
  clear hm k1 hN
  go_wp2_with fail
  refine HC.out.mono ?_
  rintro e w2 ⟨rfl, k2⟩
  have HK2 := Lib.hid ((HK.out.alloc _).trans k2)
  clear k2 HC
  go_wp2_with fail
  go_ret
  exact ⟨by simp, HK2.out⟩

set_option maxHeartbeats 4000000 in
theorem sides9_c (n er : Int) (a b : ByteArray) (hn1 : -9223372036854775808 ≤ n) (hn2 : n ≤ 9223372036854775807) (hv : sidesV F9 n = .tuple #[.string a, .string b, .int .i64 er]) (w : World) :
    Calls Tryz.prog 65 #[.int .i64 n, .string a, .string b, .int .i64 er] w (Yes w) := by
  have HV := Lib.hid hv
  have HN := Lib.hid (And.intro hn1 hn2)
  clear hv hn1 hn2
  unfold Yes
  go_enter Tryz.func65, Tryz.ntmps65
  go_wp2_with fail
  refine (four9_c w).mono ?_
  rintro e w1 ⟨g, rfl, hm, k1⟩
  have HK := Lib.hid k1
  have HC := Lib.hid (sidesS_c F9 (some ⟨g, 0, none⟩) 4 n w1 hm HN.out.1 HN.out.2)
  rw [HV.out] at HC
  clear hm k1
  go_wp2_with fail
  refine HC.out.mono ?_
  rintro e w2 ⟨rfl, k2⟩
  have HK2 := Lib.hid (HK.out.trans k2)
  clear k2 HC
  go_wp2_with fail
  go_ret
  exact ⟨by simp, HK2.out⟩

set_option maxHeartbeats 4000000 in
theorem may9_c (n : Int) (v : Bool) (hn1 : -9223372036854775808 ≤ n) (hn2 : n ≤ 9223372036854775807) (hv : mayV T9 F9 n = .tuple #[.bool v, .int .i64 0]) (w : World) (hT : Tb w) :
    Calls Tryz.prog 66 #[.int .i64 n, .bool v] w (Yes w) := by
  have HT := Lib.hid hT
  have HV := Lib.hid hv
  have HN := Lib.hid (And.intro hn1 hn2)
  clear hv hT hn1 hn2
  unfold Yes
  go_enter Tryz.func66, Tryz.ntmps66
  go_wp2_with fail
  refine (two9_c w).mono ?_
  rintro e w1 ⟨g, rfl, hm, k1⟩
  have HM := Lib.hid hm
  have HK := Lib.hid k1
  clear hm k1
  go_wp2_with fail
  refine (four9_c w1).mono ?_
  rintro e w2 ⟨g2, rfl, hm, k2⟩
  have HK2 := Lib.hid (HK.out.trans k2)
  have HC := Lib.hid (mayS_c T9 (some ⟨g, 0, none⟩) 2 F9 (some ⟨g2, 0, none⟩) 4 n w2 (HT.out.kept HK2.out) (tab_kept HM.out k2) t9_small hm HN.out.1 HN.out.2)
  rw [HV.out] at HC
  clear hm k2
  go_wp2_with fail
  refine HC.out.mono ?_
  rintro e w3 ⟨rfl, k3⟩
  have HK3 := Lib.hid (HK2.out.trans k3)
  clear k3 HC
  cases v with
  | false =>
    go_wp2_with fail
    go_ret
    exact ⟨by first | rfl | simp, HK3.out⟩
  | true =>
    go_wp2_with fail
    go_ret
    exact ⟨by first | rfl | simp, HK3.out⟩

abbrev L9 : List Tab.P2 := [(t8 [65], t8 [66]), (t8 [65], t8 [65]), (t8 [66], t8 [66])]
theorem l9_clo : Tab.cloB T9 L9 = true := by kernel_rfl
theorem pv9_true {s u : ByteArray} (h : (Tab.ats T9 s u && (Tab.alw (s, u) || Tab.inP L9 (s, u))) = true) : Tab.precise T9 s u = true := by
  rw [Bool.and_eq_true, Bool.or_eq_true] at h
  unfold Tab.precise
  rw [h.1, Tab.pcs_iff.2 (h.2.imp_right (Tab.cloB_pre l9_clo))]
  rfl
theorem pv9_false {s u : ByteArray} (h : (Tab.ats T9 s u && (Tab.alw (s, u) || Tab.nec T9 (s, u))) = false) : Tab.precise T9 s u = false := by
  cases hp : Tab.precise T9 s u with
  | false => rfl
  | true =>
    unfold Tab.precise at hp
    rw [Bool.and_eq_true] at hp
    rw [hp.1, Bool.true_and, Bool.or_eq_false_iff] at h
    rcases Tab.pcs_iff.1 hp.2 with h1 | h1
    · rw [h1] at h; exact absurd h.1 (by simp)
    · rw [Tab.nec_pre h1] at h; exact absurd h.2 (by simp)
theorem may_cast {t : List Tab.C} {l : List Tab.St} {n : Int} {x : Tab.St} {b : Bool} (hs : Tab.siteAt l n = some x) (hk : Tab.kindS x = 1) (hp : Tab.precise t (Tab.blamed n x) (Tab.other n x) = b) : mayV t l n = .tuple #[.bool (!b), .int .i64 0] := by
  unfold mayV
  rw [hs]
  simp only
  unfold Tab.mayS
  rw [if_pos hk, hp]
theorem may_dyn {t : List Tab.C} {l : List Tab.St} {n : Int} {x : Tab.St} (hs : Tab.siteAt l n = some x) (hk : ¬ Tab.kindS x = 1) : mayV t l n = .tuple #[.bool (decide (0 < n)), .int .i64 0] := by
  unfold mayV
  rw [hs]
  simp only
  unfold Tab.mayS
  rw [if_neg hk]
theorem m9_1 : mayV T9 F9 1 = .tuple #[.bool true, .int .i64 0] := may_cast (x := s9 1 [63] [65]) rfl rfl (pv9_false (by kernel_rfl))
theorem m9_1n : mayV T9 F9 (-1) = .tuple #[.bool false, .int .i64 0] := may_cast (x := s9 1 [63] [65]) rfl rfl (pv9_true (by kernel_rfl))
theorem m9_2 : mayV T9 F9 2 = .tuple #[.bool true, .int .i64 0] := may_cast (x := s9 1 [66] [65]) rfl rfl (pv9_false (by kernel_rfl))
theorem m9_2n : mayV T9 F9 (-2) = .tuple #[.bool false, .int .i64 0] := may_cast (x := s9 1 [66] [65]) rfl rfl (pv9_true (by kernel_rfl))
theorem m9_4 : mayV T9 F9 4 = .tuple #[.bool true, .int .i64 0] := may_dyn (x := s9 5 [63] [63]) rfl (by decide)
theorem m9_4n : mayV T9 F9 (-4) = .tuple #[.bool false, .int .i64 0] := may_dyn (x := s9 5 [63] [63]) rfl (by decide)
theorem d9_1 : sidesV F9 1 = .tuple #[.string (t8 [63]), .string (t8 [65]), .int .i64 0] := rfl
theorem d9_2n : sidesV F9 (-2) = .tuple #[.string (t8 [65]), .string (t8 [66]), .int .i64 0] := rfl
theorem d9_0 : sidesV F9 0 = .tuple #[.string (t8 []), .string (t8 []), .int .i64 3] := rfl
theorem d9_5 : sidesV F9 5 = .tuple #[.string (t8 []), .string (t8 []), .int .i64 3] := rfl
theorem k9_6 : Tab.sitesV T9 [s9 6 [63] [63]] = (2, 0) := by kernel_rfl
theorem k9_ii : Tab.sitesV T9 [s9 1 [105, 110, 116] [105, 110, 116]] = (7, 0) := by kernel_rfl
theorem k9_is : Tab.sitesV T9 [s9 1 [105, 110, 116] [115, 116, 114]] = (7, 0) := by kernel_rfl
theorem k9_c : Tab.sitesV T9 [s9 4 [65] [63]] = (2, 0) := by kernel_rfl
theorem k9_f : Tab.sitesV T9 F9 = (0, 0) := by kernel_rfl
theorem x9_2n : textV F9 (-2) = .tuple #[.string (t8 [50, 32, 45, 32, 99, 97, 115, 116, 32, 66, 32, 62, 32, 65]), .int .i64 0] := by kernel_rfl
theorem x9_4 : textV F9 4 = .tuple #[.string (t8 [52, 32, 43, 32, 111, 112, 32, 63, 32, 62, 32, 63]), .int .i64 0] := by kernel_rfl

set_option maxHeartbeats 8000000 in
theorem awake9_c (w : World) (hT : Tb w) : Calls Tryz.prog 51 #[] w fun e w' => e = .returned (.bool true) ∧ Kept w w' := by
  have HT := Lib.hid hT
  have HL0 := Lib.hid (Kept.refl w)
  clear hT
  go_enter Tryz.func51, Tryz.ntmps51
  have HC := Lib.hid (sides9_c 1 0 (t8 [63]) (t8 [65]) (by decide) (by decide) d9_1 w)
  go_wp2_with fail
  refine HC.out.mono ?_
  rintro e w1 ⟨rfl, kk⟩
  have HL1 := Lib.hid (HL0.out.trans kk)
  clear kk HC
  have HC := Lib.hid (sides9_c (-2) 0 (t8 [65]) (t8 [66]) (by decide) (by decide) d9_2n w1)
  go_wp2_with fail
  refine HC.out.mono ?_
  rintro e w2 ⟨rfl, kk⟩
  have HL2 := Lib.hid (HL1.out.trans kk)
  clear kk HC
  have HC := Lib.hid (may9_c 1 true (by decide) (by decide) m9_1 w2 (HT.out.kept HL2.out))
  go_wp2_with fail
  refine HC.out.mono ?_
  rintro e w3 ⟨rfl, kk⟩
  have HL3 := Lib.hid (HL2.out.trans kk)
  clear kk HC
  have HC := Lib.hid (may9_c (-1) false (by decide) (by decide) m9_1n w3 (HT.out.kept HL3.out))
  go_wp2_with fail
  refine HC.out.mono ?_
  rintro e w4 ⟨rfl, kk⟩
  have HL4 := Lib.hid (HL3.out.trans kk)
  clear kk HC
  have HC := Lib.hid (may9_c 2 true (by decide) (by decide) m9_2 w4 (HT.out.kept HL4.out))
  go_wp2_with fail
  refine HC.out.mono ?_
  rintro e w5 ⟨rfl, kk⟩
  have HL5 := Lib.hid (HL4.out.trans kk)
  clear kk HC
  have HC := Lib.hid (checks9_c 6 2 [63] [63] (by decide) (by decide) k9_6 w5 (HT.out.kept HL5.out))
  go_wp2_with fail
  refine HC.out.mono ?_
  rintro e w6 ⟨rfl, kk⟩
  have HL6 := Lib.hid (HL5.out.trans kk)
  clear kk HC
  go_wp2_with fail
  go_ret
  exact ⟨rfl, HL6.out⟩

set_option maxHeartbeats 16000000 in
theorem known9_c (w : World) (hT : Tb w) (hKw : Kw w) : Calls Tryz.prog 11 #[] w fun e w' => e = .returned (.bool true) ∧ Kept w w' := by
  have HT := Lib.hid hT
  have HW := Lib.hid hKw
  have HLa := Lib.hid (Kept.refl w)
  clear hT hKw
  go_enter Tryz.func11, Tryz.ntmps11
  go_wp2_with fail
  refine (two9_c w).mono ?_
  rintro e wa ⟨g, rfl, hm, k1⟩
  have HM := Lib.hid hm
  have HKa := Lib.hid k1
  clear hm k1
  go_wp2_with fail
  refine (four9_c wa).mono ?_
  rintro e wb ⟨g2, rfl, hm, k2⟩
  have HKb := Lib.hid (HKa.out.trans k2)
  have HC := Lib.hid (checkS_c T9 (some ⟨g, 0, none⟩) 2 F9 (some ⟨g2, 0, none⟩) 4 wb (HT.out.kept HKb.out) (tab_kept HM.out k2) t9_small hm)
  rw [k9_f] at HC
  clear hm k2
  go_wp2_with fail
  refine HC.out.mono ?_
  rintro e wc ⟨rfl, k3⟩
  have HL0 := Lib.hid (HKb.out.trans k3)
  clear k3 HC
  have HC := Lib.hid (checks9_c 1 7 [105, 110, 116] [105, 110, 116] (by decide) (by decide) k9_ii wc (HT.out.kept HL0.out))
  go_wp2_with fail
  refine HC.out.mono ?_
  rintro e w1 ⟨rfl, kk⟩
  have HL1 := Lib.hid (HL0.out.trans kk)
  clear kk HC
  have HC := Lib.hid (checks9_c 1 7 [105, 110, 116] [115, 116, 114] (by decide) (by decide) k9_is w1 (HT.out.kept HL1.out))
  go_wp2_with fail
  refine HC.out.mono ?_
  rintro e w2 ⟨rfl, kk⟩
  have HL2 := Lib.hid (HL1.out.trans kk)
  clear kk HC
  have HC := Lib.hid (checks9_c 4 2 [65] [63] (by decide) (by decide) k9_c w2 (HT.out.kept HL2.out))
  go_wp2_with fail
  refine HC.out.mono ?_
  rintro e w3 ⟨rfl, kk⟩
  have HL3 := Lib.hid (HL2.out.trans kk)
  clear kk HC
  go_wp2_with fail
  refine (four9_c w3).mono ?_
  rintro e wd ⟨g3, rfl, hm, k4⟩
  have HKd := Lib.hid (HL3.out.trans k4)
  have HC := Lib.hid (textS_c F9 (some ⟨g3, 0, none⟩) 4 (-2) wd (HW.out.kept HKd.out) hm (by decide) (by decide) (by decide) (by decide))
  rw [x9_2n] at HC
  clear hm k4
  go_wp2_with fail
  refine HC.out.mono ?_
  rintro e we ⟨rfl, k5⟩
  have HKe := Lib.hid (HKd.out.trans k5)
  clear k5 HC
  go_wp2_with fail
  refine (four9_c we).mono ?_
  rintro e wf ⟨g4, rfl, hm, k6⟩
  have HKf := Lib.hid (HKe.out.trans k6)
  have HC := Lib.hid (textS_c F9 (some ⟨g4, 0, none⟩) 4 4 wf (HW.out.kept HKf.out) hm (by decide) (by decide) (by decide) (by decide))
  rw [x9_4] at HC
  clear hm k6
  go_wp2_with fail
  refine HC.out.mono ?_
  rintro e wg ⟨rfl, k7⟩
  have HL0 := Lib.hid (HKf.out.trans k7)
  clear k7 HC
  have HC := Lib.hid (awake9_c wg (HT.out.kept HL0.out))
  go_wp2_with fail
  refine HC.out.mono ?_
  rintro e w1 ⟨rfl, kk⟩
  have HL1 := Lib.hid (HL0.out.trans kk)
  clear kk HC
  have HC := Lib.hid (sides9_c 0 3 (t8 []) (t8 []) (by decide) (by decide) d9_0 w1)
  go_wp2_with fail
  refine HC.out.mono ?_
  rintro e w2 ⟨rfl, kk⟩
  have HL2 := Lib.hid (HL1.out.trans kk)
  clear kk HC
  have HC := Lib.hid (sides9_c 5 3 (t8 []) (t8 []) (by decide) (by decide) d9_5 w2)
  go_wp2_with fail
  refine HC.out.mono ?_
  rintro e w3 ⟨rfl, kk⟩
  have HL3 := Lib.hid (HL2.out.trans kk)
  clear kk HC
  have HC := Lib.hid (may9_c (-2) false (by decide) (by decide) m9_2n w3 (HT.out.kept HL3.out))
  go_wp2_with fail
  refine HC.out.mono ?_
  rintro e w4 ⟨rfl, kk⟩
  have HL4 := Lib.hid (HL3.out.trans kk)
  clear kk HC
  have HC := Lib.hid (may9_c 4 true (by decide) (by decide) m9_4 w4 (HT.out.kept HL4.out))
  go_wp2_with fail
  refine HC.out.mono ?_
  rintro e w5 ⟨rfl, kk⟩
  have HL5 := Lib.hid (HL4.out.trans kk)
  clear kk HC
  have HC := Lib.hid (may9_c (-4) false (by decide) (by decide) m9_4n w5 (HT.out.kept HL5.out))
  go_wp2_with fail
  refine HC.out.mono ?_
  rintro e w6 ⟨rfl, kk⟩
  have HL6 := Lib.hid (HL5.out.trans kk)
  clear kk HC
  go_wp2_with fail
  go_ret
  exact ⟨rfl, HL6.out⟩

end Go.Proofs.YthooiofaicdhgaaGreatDoor
