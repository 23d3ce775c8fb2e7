/- The chapter's table of precise, made by the law's own helpers, and its examples. -/
import Derived.Test.YthooiofaicdhgaaGreatDoorPso
set_option linter.unusedSimpArgs false
set_option linter.unusedVariables false
set_option maxRecDepth 100000
namespace Go.Proofs.YthooiofaicdhgaaGreatDoor
open Go.ChangeShapes Go.WideShapes Go.ChangeAt Go.RowKit

abbrev t8 (l : List UInt8) : ByteArray := ⟨l.toArray⟩
theorem sz8 (l : List UInt8) (h : l.length ≤ 100) : (t8 l).size ≤ maxLen := by
  have : (t8 l).size = l.length := by simp [ByteArray.size]
  unfold maxLen
  omega

/-- What class answers. -/
def Clo0 (nm x : List UInt8) (w : World) (e : Ending) (w' : World) : Prop :=
  ∃ vb, e = .returned (.agg #[.string (t8 nm), .string (t8 []), .slice (some ⟨vb, 0, none⟩) 1 1, .slice none 0 0]) ∧ Blk w' vb 50 #[.string (t8 [120]), .string (t8 x)] ∧ Kept w w'
def Clo1 (nm x m : List UInt8) (w : World) (e : Ending) (w' : World) : Prop :=
  ∃ vb b, e = .returned (.agg #[.string (t8 nm), .string (t8 []), .slice (some ⟨vb, 0, none⟩) 1 1, .slice (some ⟨b, 0, none⟩) 1 1]) ∧ Blk w' vb 50 #[.string (t8 [120]), .string (t8 x)] ∧
    Blk w' b 53 #[.string (t8 [109]), .slice none 0 0, .string (t8 m)] ∧ Kept w w'

theorem class0_c (nm x : List UInt8) (w : World) : Calls Tryz.prog 154 #[.string (t8 nm), .string (t8 x), .string (t8 [])] w (Clo0 nm x w) := by
  go_enter Tryz.func154, Tryz.ntmps154
  go_wp2_with fail
  refine bodyPost_ret (v := .agg #[.string (t8 nm), .string (t8 []), .slice (some ⟨w.heap.size + 1, 0, none⟩) 1 1, .slice none 0 0]) (by simp [results, Tryz.results154, go_sem]) rfl ⟨_, rfl, ?_, (((Kept.refl w).alloc _).alloc _).alloc _⟩
  have h := (Blk.new (w.alloc (.cells #[.string (t8 nm), .string (t8 []), .slice (some ⟨w.heap.size + 1, 0, none⟩) 1 1, .slice none 0 0] 46)) 50 #[.string (t8 [120]), .string (t8 x)]).alloc (.cells #[.string (t8 nm), .string (t8 []), .slice (some ⟨w.heap.size + 1, 0, none⟩) 1 1, .slice none 0 0] 46)
  rw [World.size_alloc] at h
  exact h

theorem class1_c (nm x m : List UInt8) (w : World) (hm : m.isEmpty = false) : Calls Tryz.prog 154 #[.string (t8 nm), .string (t8 x), .string (t8 m)] w (Clo1 nm x m w) := by
  go_enter Tryz.func154, Tryz.ntmps154
  go_wp2_with fail
  refine bodyPost_ret (v := .agg #[.string (t8 nm), .string (t8 []), .slice (some ⟨w.heap.size + 1, 0, none⟩) 1 1, .slice (some ⟨w.heap.size + 1 + 1 + 1, 0, none⟩) 1 1]) (by simp [results, Tryz.results154, go_sem]) rfl ⟨_, _, rfl, ?_, ?_, ((((Kept.refl w).alloc _).alloc _).alloc _).alloc _⟩
  · have h := ((Blk.new (w.alloc (.cells #[.string (t8 nm), .string (t8 []), .slice (some ⟨w.heap.size + 1, 0, none⟩) 1 1, .slice (some ⟨w.heap.size + 1 + 1 + 1, 0, none⟩) 1 1] 46)) 50 #[.string (t8 [120]), .string (t8 x)]).alloc (.cells #[.string (t8 nm), .string (t8 []), .slice (some ⟨w.heap.size + 1, 0, none⟩) 1 1, .slice (some ⟨w.heap.size + 1 + 1 + 1, 0, none⟩) 1 1] 46)).alloc (.cells #[.string (t8 [109]), .slice none 0 0, .string (t8 m)] 53)
    rw [World.size_alloc] at h
    exact h
  · have h := Blk.new (((w.alloc (.cells #[.string (t8 nm), .string (t8 []), .slice (some ⟨w.heap.size + 1, 0, none⟩) 1 1, .slice (some ⟨w.heap.size + 1 + 1 + 1, 0, none⟩) 1 1] 46)).alloc (.cells #[.string (t8 [120]), .string (t8 x)] 50)).alloc (.cells #[.string (t8 nm), .string (t8 []), .slice (some ⟨w.heap.size + 1, 0, none⟩) 1 1, .slice (some ⟨w.heap.size + 1 + 1 + 1, 0, none⟩) 1 1] 46)) 53 #[.string (t8 [109]), .slice none 0 0, .string (t8 m)]
    rw [World.size_alloc, World.size_alloc, World.size_alloc] at h
    exact h

/-- The chapter's table. -/
abbrev c8 (n x : List UInt8) (m : List (List UInt8)) : Tab.C := ⟨t8 n, t8 [], [⟨t8 [120], t8 x⟩], m.map fun r => ⟨t8 [109], [], t8 r⟩⟩
abbrev T8 : List Tab.C := [c8 [65] [63] [], c8 [66] [105, 110, 116] [[66]], c8 [67] [105, 110, 116] [[67]], c8 [68] [105, 110, 116] [[63]]]
theorem t8_small : Small T8 := ⟨by decide, by decide, by decide, by decide⟩

theorem row_1 {α : Type} {k : Nat} {R : World → Nat → Nat → α → Prop} {w : World} {g : Nat} {x : α} (h : R w g 0 x) : Row k R w (.slice (some ⟨g, 0, none⟩) 1 1) [x] :=
  ⟨_, 1, rfl, Nat.le_refl _, by decide, fun i a ha => by
    match i, ha with
    | 0, ha => cases ha; exact ⟨g, 0, rfl, by simpa using h⟩⟩
theorem row_4 {α : Type} {k : Nat} {R : World → Nat → Nat → α → Prop} {w : World} {g : Nat} {x y z u : α} (h : R w g 0 x) (h2 : R w g k y) (h3 : R w g (2 * k) z) (h4 : R w g (3 * k) u) : Row k R w (.slice (some ⟨g, 0, none⟩) 4 4) [x, y, z, u] :=
  ⟨_, 4, rfl, Nat.le_refl _, by decide, fun i a ha => by
    match i, ha with
    | 0, ha => cases ha; exact ⟨g, 0, rfl, by simpa using h⟩
    | 1, ha => cases ha; exact ⟨g, 0, rfl, by simpa using h2⟩
    | 2, ha => cases ha; exact ⟨g, 0, rfl, by simpa using h3⟩
    | 3, ha => cases ha; exact ⟨g, 0, rfl, by simpa using h4⟩⟩

/-- A class of the table, out of what class answered. -/
theorem cls8 {W : World} {g o vb : Nat} {cs : Array Value} {ms : Value} {n x : List UInt8} {m : List (List UInt8)} (h : Blk W g 46 cs) (h0 : cs[o]? = some (.string (t8 n))) (h1 : cs[o + 1]? = some (.string (t8 []))) (h2 : cs[o + 2]? = some (.slice (some ⟨vb, 0, none⟩) 1 1)) (h3 : cs[o + 3]? = some ms)
    (hv : Blk W vb 50 #[.string (t8 [120]), .string (t8 x)]) (hm : Row 3 SigAt W ms (m.map fun r => ⟨t8 [109], [], t8 r⟩)) (hn : n.length ≤ 100) (hx : x.length ≤ 100) : ClsAt W g o (c8 n x m) :=
  ⟨(h.cell o).trans h0, (h.cell (o + 1)).trans h1, ⟨_, (h.cell (o + 2)).trans h2, row_1 ⟨hv.cell 0, hv.cell 1, sz8 _ (by decide), sz8 _ hx⟩⟩, ⟨_, (h.cell (o + 3)).trans h3, hm⟩, sz8 _ hn, sz8 _ (by decide)⟩
theorem ms8 {W : World} {b : Nat} {m : List UInt8} (h : Blk W b 53 #[.string (t8 [109]), .slice none 0 0, .string (t8 m)]) (hm : m.length ≤ 100) : Row 3 SigAt W (.slice (some ⟨b, 0, none⟩) 1 1) ([m].map fun r => ⟨t8 [109], [], t8 r⟩) :=
  row_1 ⟨h.cell 0, ⟨_, h.cell 1, Row.nil⟩, h.cell 2, sz8 _ (by decide), sz8 _ hm⟩

def FourOut (w : World) (e : Ending) (w' : World) : Prop := ∃ g, e = .returned (.slice (some ⟨g, 0, none⟩) 4 4) ∧ TabAt w' (.slice (some ⟨g, 0, none⟩) 4 4) T8 ∧ Kept w w'
set_option maxHeartbeats 4000000 in
theorem four_c (w : World) : Calls Tryz.prog 106 #[] w (FourOut w) := by
  go_enter Tryz.func106, Tryz.ntmps106
  go_wp2_with fail
  refine (class0_c [65] [63] w).mono ?_
  rintro e w1 ⟨vA, rfl, hA, k1⟩
  have A := Lib.hid hA
  have K1 := Lib.hid k1
  clear hA k1
  go_wp2_with fail
  refine (class1_c [66] [105, 110, 116] [66] w1 rfl).mono ?_
  rintro e w2 ⟨vB, mB, rfl, hB, sB, k2⟩
  have B := Lib.hid hB
  have SB := Lib.hid sB
  have K2 := Lib.hid k2
  clear hB sB k2
  go_wp2_with fail
  refine (class1_c [67] [105, 110, 116] [67] w2 rfl).mono ?_
  rintro e w3 ⟨vC, mC, rfl, hC, sC, k3⟩
  have C := Lib.hid hC
  have SC := Lib.hid sC
  have K3 := Lib.hid k3
  clear hC sC k3
  go_wp2_with fail
  refine (class1_c [68] [105, 110, 116] [63] w3 rfl).mono ?_
  rintro e w4 ⟨vD, mD, rfl, hD, sD, k4⟩
  have D := Lib.hid hD
  have SD := Lib.hid sD
  have K4 := Lib.hid k4
  clear hD sD k4
  go_wp2_with fail
  go_ret
  have c4 : Kept w4 (w4.alloc (.cells #[.string (t8 [65]), .string (t8 []), .slice (some ⟨vA, 0, none⟩) 1 1, .slice none 0 0, .string (t8 [66]), .string (t8 []), .slice (some ⟨vB, 0, none⟩) 1 1, .slice (some ⟨mB, 0, none⟩) 1 1, .string (t8 [67]), .string (t8 []), .slice (some ⟨vC, 0, none⟩) 1 1, .slice (some ⟨mC, 0, none⟩) 1 1, .string (t8 [68]), .string (t8 []), .slice (some ⟨vD, 0, none⟩) 1 1, .slice (some ⟨mD, 0, none⟩) 1 1] 46)) := (Kept.refl w4).alloc _
  have N := Blk.new w4 46 #[.string (t8 [65]), .string (t8 []), .slice (some ⟨vA, 0, none⟩) 1 1, .slice none 0 0, .string (t8 [66]), .string (t8 []), .slice (some ⟨vB, 0, none⟩) 1 1, .slice (some ⟨mB, 0, none⟩) 1 1, .string (t8 [67]), .string (t8 []), .slice (some ⟨vC, 0, none⟩) 1 1, .slice (some ⟨mC, 0, none⟩) 1 1, .string (t8 [68]), .string (t8 []), .slice (some ⟨vD, 0, none⟩) 1 1, .slice (some ⟨mD, 0, none⟩) 1 1]
  have c3 := K4.out.trans c4
  have c2 := K3.out.trans c3
  have c1 := K2.out.trans c2
  exact ⟨_, rfl, row_4
    (cls8 N rfl rfl rfl rfl (A.out.kept c1) Row.nil (by decide) (by decide))
    (cls8 N rfl rfl rfl rfl (B.out.kept c2) (ms8 (SB.out.kept c2) (by decide)) (by decide) (by decide))
    (cls8 N rfl rfl rfl rfl (C.out.kept c3) (ms8 (SC.out.kept c3) (by decide)) (by decide) (by decide))
    (cls8 N rfl rfl rfl rfl (D.out.kept c4) (ms8 (SD.out.kept c4) (by decide)) (by decide) (by decide)), K1.out.trans c1⟩

namespace Tab
def cloB (t : List C) (L : List P2) : Bool := L.all fun p => (both t p && hasB (mbs t p.1) (mbs t p.2)) && (mbs t p.2).all fun m => (mbs t p.1).all fun x => !alike x m || (zipT x.types m.types).all (inP L)
theorem cloB_pre {t : List C} {L : List P2} (h : cloB t L = true) {p : P2} (hp : inP L p = true) : Pre t p := by
  refine ⟨fun p => p ∈ L, fun p hp => ?_, inP_iff.1 hp⟩
  unfold cloB at h
  have h1 := List.all_eq_true.1 h p hp
  rw [Bool.and_eq_true, Bool.and_eq_true] at h1
  obtain ⟨⟨h1, h2⟩, h3⟩ := h1
  refine ⟨h1, h2, fun m hm x hx ha q hq => ?_⟩
  have h4 := List.all_eq_true.1 (List.all_eq_true.1 h3 m hm) x hx
  rw [ha] at h4
  exact inP_iff.1 (List.all_eq_true.1 (by simpa using h4) q hq)
def nec (t : List C) (p : P2) : Bool := (both t p && hasB (mbs t p.1) (mbs t p.2)) && (mbs t p.2).all fun m => (mbs t p.1).all fun x => !alike x m || (zipT x.types m.types).all (both t)
theorem nec_pre {t : List C} {p : P2} (h : Pre t p) : nec t p = true := by
  obtain ⟨h1, h2, h3⟩ := pre_closed t p h
  unfold nec
  rw [h1, h2, List.all_eq_true.2]
  · rfl
  · intro m hm
    refine List.all_eq_true.2 fun x hx => ?_
    cases ha : alike x m with
    | false => rfl
    | true => exact List.all_eq_true.2 fun q hq => pre_both (h3 m hm x hx ha q hq)
end Tab
open Tab

abbrev L8 : List P2 := [(t8 [66], t8 [65]), (t8 [67], t8 [65]), (t8 [68], t8 [65]), (t8 [66], t8 [67]), (t8 [67], t8 [66]), (t8 [66], t8 [68]), (t8 [67], t8 [68])]
theorem l8_clo : Tab.cloB T8 L8 = true := by kernel_rfl
theorem pv_true {s u : ByteArray} (h : (Tab.ats T8 s u && (Tab.alw (s, u) || Tab.inP L8 (s, u))) = true) : Tab.precise T8 s u = true := by
  rw [Bool.and_eq_true, Bool.or_eq_true] at h
  unfold Tab.precise
  rw [h.1, Tab.pcs_iff.2 (h.2.imp_right (Tab.cloB_pre l8_clo))]
  rfl
theorem pv_false {s u : ByteArray} (h : (Tab.ats T8 s u && (Tab.alw (s, u) || Tab.nec T8 (s, u))) = false) : Tab.precise T8 s u = false := by
  cases hp : Tab.precise T8 s u with
  | false => rfl
  | true =>
    unfold Tab.precise at hp
    rw [Bool.and_eq_true] at hp
    rw [hp.1, Bool.true_and, Bool.or_eq_false_iff] at h
    rcases Tab.pcs_iff.1 hp.2 with h1 | h1
    · rw [h1] at h; exact absurd h.1 (by simp)
    · rw [Tab.nec_pre h1] at h; exact absurd h.2 (by simp)

theorem ck8_0 : Tab.precise T8 (t8 [66]) (t8 [65]) = true := pv_true (by kernel_rfl)
theorem ck8_1 : Tab.precise T8 (t8 [65]) (t8 [66]) = false := pv_false (by kernel_rfl)
theorem ck8_2 : Tab.precise T8 (t8 [66]) (t8 [67]) = true := pv_true (by kernel_rfl)
theorem ck8_3 : Tab.precise T8 (t8 [67]) (t8 [66]) = true := pv_true (by kernel_rfl)
theorem ck8_4 : Tab.precise T8 (t8 [66]) (t8 [68]) = true := pv_true (by kernel_rfl)
theorem ck8_5 : Tab.precise T8 (t8 [68]) (t8 [66]) = false := pv_false (by kernel_rfl)
theorem ck8_6 : Tab.precise T8 (t8 [105, 110, 116]) (t8 [63]) = true := pv_true (by kernel_rfl)
theorem ck8_7 : Tab.precise T8 (t8 [63]) (t8 [105, 110, 116]) = false := pv_false (by kernel_rfl)
theorem ck8_8 : Tab.precise T8 (t8 [105, 110, 116]) (t8 [114, 101, 97, 108]) = false := pv_false (by kernel_rfl)
theorem ck8_9 : Tab.precise T8 (t8 [65]) (t8 [63]) = true := pv_true (by kernel_rfl)
theorem ck8_10 : Tab.precise T8 (t8 [63]) (t8 [65]) = false := pv_false (by kernel_rfl)
theorem ck8_11 : Tab.precise T8 (t8 [105, 110, 116]) (t8 [115, 116, 114]) = false := pv_false (by kernel_rfl)
theorem ck8_12 : Tab.precise T8 (t8 [115, 116, 114]) (t8 [105, 110, 116]) = false := pv_false (by kernel_rfl)
theorem ck8_13 : Tab.precise T8 (t8 [89]) (t8 [89]) = false := pv_false (by kernel_rfl)
theorem ckm_0 : Tab.more T8 (t8 [66]) (t8 [65]) = 1 := by unfold Tab.more; rw [ck8_0, ck8_1]; rfl
theorem cks_0 : Tab.same T8 (t8 [66]) (t8 [67]) = true := by unfold Tab.same; rw [ck8_2, ck8_3]; rfl
theorem ckm_1 : Tab.more T8 (t8 [65]) (t8 [66]) = -1 := by unfold Tab.more; rw [ck8_1, ck8_0]; rfl
theorem ckm_2 : Tab.more T8 (t8 [66]) (t8 [67]) = 0 := by unfold Tab.more; rw [ck8_2, ck8_3]; rfl
theorem ckm_3 : Tab.more T8 (t8 [65]) (t8 [63]) = 1 := by unfold Tab.more; rw [ck8_9, ck8_10]; rfl
theorem ckm_4 : Tab.more T8 (t8 [105, 110, 116]) (t8 [115, 116, 114]) = 0 := by unfold Tab.more; rw [ck8_11, ck8_12]; rfl
theorem ckm_5 : Tab.more T8 (t8 [89]) (t8 [89]) = 0 := by unfold Tab.more; rw [if_pos rfl]
theorem cks_1 : Tab.same T8 (t8 [66]) (t8 [68]) = false := by unfold Tab.same; rw [ck8_4, ck8_5]; rfl

set_option maxHeartbeats 8000000 in
theorem awake8_c (w : World) (hT : Tb w) : Calls Tryz.prog 38 #[] w fun e w' => e = .returned (.bool true) ∧ Kept w w' := by
  have HT := Lib.hid hT
  clear hT
  go_enter Tryz.func38, Tryz.ntmps38
  go_wp2_with fail
  refine (four_c w).mono ?_
  rintro e w1 ⟨g, rfl, hm, k1⟩
  have HM := Lib.hid hm
  have HL1 := Lib.hid k1
  have HW1 := Lib.hid (Kept.refl w1)
  clear hm k1
  have HC := Lib.hid (precise_cc T8 (some ⟨g, 0, none⟩) 4 (t8 [66]) (t8 [65]) w1 (HT.out.kept HL1.out) (tab_kept HM.out HW1.out) t8_small (sz8 _ (by decide)) (sz8 _ (by decide)))
  rw [ck8_0] at HC
  go_wp2_with fail
  refine HC.out.mono ?_
  rintro e w2 ⟨rfl, kk⟩
  have HL2 := Lib.hid (HL1.out.trans kk)
  have HW2 := Lib.hid (HW1.out.trans kk)
  clear kk HC
  have HC := Lib.hid (precise_cc T8 (some ⟨g, 0, none⟩) 4 (t8 [65]) (t8 [66]) w2 (HT.out.kept HL2.out) (tab_kept HM.out HW2.out) t8_small (sz8 _ (by decide)) (sz8 _ (by decide)))
  rw [ck8_1] at HC
  go_wp2_with fail
  refine HC.out.mono ?_
  rintro e w3 ⟨rfl, kk⟩
  have HL3 := Lib.hid (HL2.out.trans kk)
  have HW3 := Lib.hid (HW2.out.trans kk)
  clear kk HC
  have HC := Lib.hid (precise_cc T8 (some ⟨g, 0, none⟩) 4 (t8 [66]) (t8 [67]) w3 (HT.out.kept HL3.out) (tab_kept HM.out HW3.out) t8_small (sz8 _ (by decide)) (sz8 _ (by decide)))
  rw [ck8_2] at HC
  go_wp2_with fail
  refine HC.out.mono ?_
  rintro e w4 ⟨rfl, kk⟩
  have HL4 := Lib.hid (HL3.out.trans kk)
  have HW4 := Lib.hid (HW3.out.trans kk)
  clear kk HC
  have HC := Lib.hid (more_cc T8 (some ⟨g, 0, none⟩) 4 (t8 [66]) (t8 [65]) w4 (HT.out.kept HL4.out) (tab_kept HM.out HW4.out) t8_small (sz8 _ (by decide)) (sz8 _ (by decide)))
  rw [ckm_0] at HC
  go_wp2_with fail
  refine HC.out.mono ?_
  rintro e w5 ⟨rfl, kk⟩
  have HL5 := Lib.hid (HL4.out.trans kk)
  have HW5 := Lib.hid (HW4.out.trans kk)
  clear kk HC
  have HC := Lib.hid (same_cc T8 (some ⟨g, 0, none⟩) 4 (t8 [66]) (t8 [67]) w5 (HT.out.kept HL5.out) (tab_kept HM.out HW5.out) t8_small (sz8 _ (by decide)) (sz8 _ (by decide)))
  rw [cks_0] at HC
  go_wp2_with fail
  refine HC.out.mono ?_
  rintro e w6 ⟨rfl, kk⟩
  have HL6 := Lib.hid (HL5.out.trans kk)
  have HW6 := Lib.hid (HW5.out.trans kk)
  clear kk HC
  go_wp2_with fail
  go_ret
  exact ⟨rfl, HL6.out⟩
set_option maxHeartbeats 8000000 in
theorem known8_c (w : World) (hT : Tb w) : Calls Tryz.prog 45 #[] w fun e w' => e = .returned (.bool true) ∧ Kept w w' := by
  have HT := Lib.hid hT
  clear hT
  go_enter Tryz.func45, Tryz.ntmps45
  go_wp2_with fail
  refine (four_c w).mono ?_
  rintro e w1 ⟨g, rfl, hm, k1⟩
  have HM := Lib.hid hm
  have HL1 := Lib.hid k1
  have HW1 := Lib.hid (Kept.refl w1)
  clear hm k1
  have HC := Lib.hid (precise_cc T8 (some ⟨g, 0, none⟩) 4 (t8 [67]) (t8 [66]) w1 (HT.out.kept HL1.out) (tab_kept HM.out HW1.out) t8_small (sz8 _ (by decide)) (sz8 _ (by decide)))
  rw [ck8_3] at HC
  go_wp2_with fail
  refine HC.out.mono ?_
  rintro e w2 ⟨rfl, kk⟩
  have HL2 := Lib.hid (HL1.out.trans kk)
  have HW2 := Lib.hid (HW1.out.trans kk)
  clear kk HC
  have HC := Lib.hid (precise_cc T8 (some ⟨g, 0, none⟩) 4 (t8 [66]) (t8 [68]) w2 (HT.out.kept HL2.out) (tab_kept HM.out HW2.out) t8_small (sz8 _ (by decide)) (sz8 _ (by decide)))
  rw [ck8_4] at HC
  go_wp2_with fail
  refine HC.out.mono ?_
  rintro e w3 ⟨rfl, kk⟩
  have HL3 := Lib.hid (HL2.out.trans kk)
  have HW3 := Lib.hid (HW2.out.trans kk)
  clear kk HC
  have HC := Lib.hid (precise_cc T8 (some ⟨g, 0, none⟩) 4 (t8 [68]) (t8 [66]) w3 (HT.out.kept HL3.out) (tab_kept HM.out HW3.out) t8_small (sz8 _ (by decide)) (sz8 _ (by decide)))
  rw [ck8_5] at HC
  go_wp2_with fail
  refine HC.out.mono ?_
  rintro e w4 ⟨rfl, kk⟩
  have HL4 := Lib.hid (HL3.out.trans kk)
  have HW4 := Lib.hid (HW3.out.trans kk)
  clear kk HC
  have HC := Lib.hid (precise_cc T8 (some ⟨g, 0, none⟩) 4 (t8 [105, 110, 116]) (t8 [63]) w4 (HT.out.kept HL4.out) (tab_kept HM.out HW4.out) t8_small (sz8 _ (by decide)) (sz8 _ (by decide)))
  rw [ck8_6] at HC
  go_wp2_with fail
  refine HC.out.mono ?_
  rintro e w5 ⟨rfl, kk⟩
  have HL5 := Lib.hid (HL4.out.trans kk)
  have HW5 := Lib.hid (HW4.out.trans kk)
  clear kk HC
  have HC := Lib.hid (precise_cc T8 (some ⟨g, 0, none⟩) 4 (t8 [105, 110, 116]) (t8 [114, 101, 97, 108]) w5 (HT.out.kept HL5.out) (tab_kept HM.out HW5.out) t8_small (sz8 _ (by decide)) (sz8 _ (by decide)))
  rw [ck8_8] at HC
  go_wp2_with fail
  refine HC.out.mono ?_
  rintro e w6 ⟨rfl, kk⟩
  have HL6 := Lib.hid (HL5.out.trans kk)
  have HW6 := Lib.hid (HW5.out.trans kk)
  clear kk HC
  have HC := Lib.hid (more_cc T8 (some ⟨g, 0, none⟩) 4 (t8 [65]) (t8 [66]) w6 (HT.out.kept HL6.out) (tab_kept HM.out HW6.out) t8_small (sz8 _ (by decide)) (sz8 _ (by decide)))
  rw [ckm_1] at HC
  go_wp2_with fail
  refine HC.out.mono ?_
  rintro e w7 ⟨rfl, kk⟩
  have HL7 := Lib.hid (HL6.out.trans kk)
  have HW7 := Lib.hid (HW6.out.trans kk)
  clear kk HC
  have HC := Lib.hid (more_cc T8 (some ⟨g, 0, none⟩) 4 (t8 [66]) (t8 [67]) w7 (HT.out.kept HL7.out) (tab_kept HM.out HW7.out) t8_small (sz8 _ (by decide)) (sz8 _ (by decide)))
  rw [ckm_2] at HC
  go_wp2_with fail
  refine HC.out.mono ?_
  rintro e w8 ⟨rfl, kk⟩
  have HL8 := Lib.hid (HL7.out.trans kk)
  have HW8 := Lib.hid (HW7.out.trans kk)
  clear kk HC
  have HC := Lib.hid (more_cc T8 (some ⟨g, 0, none⟩) 4 (t8 [65]) (t8 [63]) w8 (HT.out.kept HL8.out) (tab_kept HM.out HW8.out) t8_small (sz8 _ (by decide)) (sz8 _ (by decide)))
  rw [ckm_3] at HC
  go_wp2_with fail
  refine HC.out.mono ?_
  rintro e w9 ⟨rfl, kk⟩
  have HL9 := Lib.hid (HL8.out.trans kk)
  have HW9 := Lib.hid (HW8.out.trans kk)
  clear kk HC
  have HC := Lib.hid (more_cc T8 (some ⟨g, 0, none⟩) 4 (t8 [105, 110, 116]) (t8 [115, 116, 114]) w9 (HT.out.kept HL9.out) (tab_kept HM.out HW9.out) t8_small (sz8 _ (by decide)) (sz8 _ (by decide)))
  rw [ckm_4] at HC
  go_wp2_with fail
  refine HC.out.mono ?_
  rintro e w10 ⟨rfl, kk⟩
  have HL10 := Lib.hid (HL9.out.trans kk)
  have HW10 := Lib.hid (HW9.out.trans kk)
  clear kk HC
  have HC := Lib.hid (more_cc T8 (some ⟨g, 0, none⟩) 4 (t8 [89]) (t8 [89]) w10 (HT.out.kept HL10.out) (tab_kept HM.out HW10.out) t8_small (sz8 _ (by decide)) (sz8 _ (by decide)))
  rw [ckm_5] at HC
  go_wp2_with fail
  refine HC.out.mono ?_
  rintro e w11 ⟨rfl, kk⟩
  have HL11 := Lib.hid (HL10.out.trans kk)
  have HW11 := Lib.hid (HW10.out.trans kk)
  clear kk HC
  have HC := Lib.hid (awake8_c w11 (HT.out.kept HL11.out))
  go_wp2_with fail
  refine HC.out.mono ?_
  rintro e w12 ⟨rfl, kk⟩
  have HL12 := Lib.hid (HL11.out.trans kk)
  have HW12 := Lib.hid (HW11.out.trans kk)
  clear kk HC
  have HC := Lib.hid (same_cc T8 (some ⟨g, 0, none⟩) 4 (t8 [66]) (t8 [68]) w12 (HT.out.kept HL12.out) (tab_kept HM.out HW12.out) t8_small (sz8 _ (by decide)) (sz8 _ (by decide)))
  rw [cks_1] at HC
  go_wp2_with fail
  refine HC.out.mono ?_
  rintro e w13 ⟨rfl, kk⟩
  have HL13 := Lib.hid (HL12.out.trans kk)
  have HW13 := Lib.hid (HW12.out.trans kk)
  clear kk HC
  go_wp2_with fail
  go_ret
  exact ⟨rfl, HL13.out⟩

end Go.Proofs.YthooiofaicdhgaaGreatDoor
