/- The chapter's examples of subtype are answered as it says. -/
import Derived.Test.YthooiofaicdhgaaGreatDoorSbt
import Derived.Test.YthooiofaicdhgaaGreatDoorSbe
import Derived.Test.YthooiofaicdhgaaGreatDoorKwn
set_option linter.unusedSimpArgs false
set_option linter.unusedVariables false
set_option maxRecDepth 100000
namespace Go.Proofs.YthooiofaicdhgaaGreatDoor
open Go.ChangeShapes Go.WideShapes Go.ChangeAt Go.RowKit

/-- The chapter's table. -/
abbrev T1 : List Tab.C := [lone (tx [65]) (tx []), lone (tx [66]) (tx [65]), lone (tx [67]) (tx [65]), lone (tx [68]) (tx [66]), lone (tx [88]) (tx [])]
theorem t1_small : Small T1 := small_lones [(tx [65], tx []), (tx [66], tx [65]), (tx [67], tx [65]), (tx [68], tx [66]), (tx [88], tx [])] (by decide)

theorem row_five {α : Type} {k : Nat} {R : World → Nat → Nat → α → Prop} {w : World} {g : Nat} {x y z u v : α} (h : R w g 0 x) (h2 : R w g k y) (h3 : R w g (2 * k) z) (h4 : R w g (3 * k) u) (h5 : R w g (4 * k) v) : Row k R w (.slice (some ⟨g, 0, none⟩) 5 5) [x, y, z, u, v] :=
  ⟨_, 5, rfl, Nat.le_refl _, by decide, fun i a ha => by
    match i, ha with
    | 0, ha => cases ha; exact ⟨g, 0, rfl, by simpa using h⟩
    | 1, ha => cases ha; exact ⟨g, 0, rfl, by simpa using h2⟩
    | 2, ha => cases ha; exact ⟨g, 0, rfl, by simpa using h3⟩
    | 3, ha => cases ha; exact ⟨g, 0, rfl, by simpa using h4⟩
    | 4, ha => cases ha; exact ⟨g, 0, rfl, by simpa using h5⟩⟩

theorem lone_at {W : World} {g : Nat} {cs : Array Value} (h : Blk W g 46 cs) (o : Nat) (n s : ByteArray) (h0 : cs[o]? = some (.string n)) (h1 : cs[o + 1]? = some (.string s)) (h2 : cs[o + 2]? = some (.slice none 0 0)) (h3 : cs[o + 3]? = some (.slice none 0 0)) (hn : n.size ≤ maxLen) (hs : s.size ≤ maxLen) : ClsAt W g o (lone n s) :=
  ⟨(h.cell o).trans h0, (h.cell (o + 1)).trans h1, ⟨_, (h.cell (o + 2)).trans h2, Row.nil⟩, ⟨_, (h.cell (o + 3)).trans h3, Row.nil⟩, hn, hs⟩

theorem some_c (w : World) : Calls Tryz.prog 68 #[] w fun e w' => e = .returned (.slice (some ⟨w.heap.size, 0, none⟩) 5 5) ∧ TabAt w' (.slice (some ⟨w.heap.size, 0, none⟩) 5 5) T1 ∧ Kept w w' := by
  go_enter Tryz.func68, Tryz.ntmps68
  go_wp2_with fail
  go_ret
  exact ⟨rfl, row_five (lone_at (Blk.new w _ _) 0 _ _ rfl rfl rfl rfl (sz _ (by decide)) (sz _ (by decide))) (lone_at (Blk.new w _ _) 4 _ _ rfl rfl rfl rfl (sz _ (by decide)) (sz _ (by decide))) (lone_at (Blk.new w _ _) 8 _ _ rfl rfl rfl rfl (sz _ (by decide)) (sz _ (by decide))) (lone_at (Blk.new w _ _) 12 _ _ rfl rfl rfl rfl (sz _ (by decide)) (sz _ (by decide))) (lone_at (Blk.new w _ _) 16 _ _ rfl rfl rfl rfl (sz _ (by decide)) (sz _ (by decide))), (Kept.refl w).alloc _⟩

theorem joins_y (t : List Tab.C) (a : Option Addr) (cp : Nat) (s u x : ByteArray) (b : Bool) (w : World) (hTb : Tb w) (h : TabAt w (.slice a t.length cp) t) (hS : Small t) (h1 : (Tab.join t s u).getD ⟨#[]⟩ = x) (h2 : (Tab.join t s u).isSome = b) :
    Calls Tryz.prog 69 #[.slice a t.length cp, .string s, .string u, .string x, .bool b] w fun e w' => e = .returned (.bool true) ∧ Kept w w' := by
  have HJ := Lib.hid (join_c t a cp s u w hTb h hS)
  unfold joinV at HJ
  rw [h1, h2] at HJ
  have hb : (x.toList == x.toList) = true := beq_yes rfl
  have hbb : (b == b) = true := by simp
  clear hTb h hS h1 h2
  go_enter Tryz.func69, Tryz.ntmps69
  go_wp2_with fail
  refine HJ.out.mono ?_
  rintro e w1 ⟨rfl, k1⟩
  go_wp2_with fail
  go_ret
  exact ⟨by first | rfl | simp, k1⟩

theorem txt_row {w : World} {base : Nat} {v : Value} {l : List ByteArray} (h : w.ownsRow base 9 1 v l.length (l.map Value.string)) : Row 1 TxtR w v l := owns_row h

theorem ck6_0 : Tab.sub T1 (tx [68]) (tx [65]) = true := by kernel_rfl

theorem ck6_1 : Tab.sub T1 (tx [65]) (tx [68]) = false := by kernel_rfl

theorem ck6_2 : Tab.join T1 (tx [68]) (tx [67]) = some (tx [65]) := by kernel_rfl

theorem ck6_3 : Tab.below T1 (tx [66]) = [tx [66], tx [68]] := by kernel_rfl

theorem ck6_4 : Tab.leaf T1 (tx [68]) = true := by kernel_rfl

theorem ck6_5 : Tab.sub T1 (tx [65]) (tx [65]) = true := by kernel_rfl

theorem ck6_6 : Tab.sub T1 (tx [105, 110, 116]) (tx [105, 110, 116]) = true := by kernel_rfl

theorem ck6_7 : Tab.sub T1 (tx [65]) (tx [63]) = false := by kernel_rfl

theorem ck6_8 : Tab.sub T1 (tx [89]) (tx [89]) = false := by kernel_rfl

theorem ck6_9 : Tab.join T1 (tx [67]) (tx [68]) = some (tx [65]) := by kernel_rfl

theorem ck6_10 : Tab.join T1 (tx [68]) (tx [66]) = some (tx [66]) := by kernel_rfl

theorem ck6_11 : Tab.join T1 (tx [65]) (tx [88]) = none := by kernel_rfl

theorem ck6_12 : Tab.join T1 (tx [105, 110, 116]) (tx [105, 110, 116]) = some (tx [105, 110, 116]) := by kernel_rfl

theorem ck6_13 : Tab.join T1 (tx [105, 110, 116]) (tx [63]) = none := by kernel_rfl

theorem ck6_14 : Tab.join T1 (tx [63]) (tx [63]) = some (tx [63]) := by kernel_rfl

theorem ck6_15 : Tab.below T1 (tx [65]) = [tx [65], tx [66], tx [67], tx [68]] := by kernel_rfl

theorem ck6_16 : Tab.below T1 (tx [105, 110, 116]) = [] := by kernel_rfl

theorem ck6_17 : Tab.leaf T1 (tx [66]) = false := by kernel_rfl

theorem ck6_18 : Tab.leaf T1 (tx [63]) = false := by kernel_rfl

set_option maxHeartbeats 8000000 in
theorem awake6_c (w : World) (hT : Tb w) : Calls Tryz.prog 16 #[] w fun e w' => e = .returned (.bool true) ∧ Kept w w' := by
  have HT := Lib.hid hT
  clear hT
  go_enter Tryz.func16, Tryz.ntmps16
  go_wp2_with fail
  refine (some_c w).mono ?_
  rintro e w1 ⟨rfl, hm, k1⟩
  have HM := Lib.hid hm
  have HK1 := Lib.hid k1
  have HL1 := Lib.hid (Kept.refl w1)
  clear hm k1
  have HC := Lib.hid (sub_c T1 _ 5 (tx [68]) (tx [65]) w1 (HT.out.kept (HK1.out.trans HL1.out)) (tab_kept HM.out HL1.out) t1_small)
  rw [ck6_0] at HC
  go_wp2_with fail
  refine HC.out.mono ?_
  rintro e w2 ⟨rfl, kk⟩
  have HL2 := Lib.hid (HL1.out.trans kk)
  clear kk HC
  have HC := Lib.hid (sub_c T1 _ 5 (tx [65]) (tx [68]) w2 (HT.out.kept (HK1.out.trans HL2.out)) (tab_kept HM.out HL2.out) t1_small)
  rw [ck6_1] at HC
  go_wp2_with fail
  refine HC.out.mono ?_
  rintro e w3 ⟨rfl, kk⟩
  have HL3 := Lib.hid (HL2.out.trans kk)
  clear kk HC
  have HC := Lib.hid (joins_y T1 _ 5 (tx [68]) (tx [67]) (tx [65]) true w3 (HT.out.kept (HK1.out.trans HL3.out)) (tab_kept HM.out HL3.out) t1_small (by rw [ck6_2]; rfl) (by rw [ck6_2]; rfl))
  go_wp2_with fail
  refine HC.out.mono ?_
  rintro e w4 ⟨rfl, kk⟩
  have HL4 := Lib.hid (HL3.out.trans kk)
  clear kk HC
  have HC := Lib.hid (below_c T1 _ 5 (tx [66]) w4 (HT.out.kept (HK1.out.trans HL4.out)) (tab_kept HM.out HL4.out) t1_small)
  rw [ck6_3] at HC
  go_wp2_with fail
  refine HC.out.mono ?_
  rintro e w5 ⟨v, rfl, hr, kk⟩
  have HL5 := Lib.hid (HL4.out.trans kk)
  have hx := txt_row hr
  have HR := Lib.hid hx
  obtain ⟨va, vc, rfl, _⟩ := hx
  clear kk HC hr
  have hkA : Kept w5 (w5.alloc (.cells #[.string (tx [66]), .string (tx [68])] 9)) := (Kept.refl w5).alloc _
  have HB := Lib.hid (Blk.new w5 9 #[.string (tx [66]), .string (tx [68])])
  have HS := Lib.hid (sameTexts_y [tx [66], tx [68]] _ (.slice (some ⟨w5.heap.size, 0, none⟩) 2 2) _ (HR.out.mono fun b o x r => hkA.cell r) (row_two (R := TxtR) (HB.out.cell 0) (HB.out.cell 1)))
  have HLA := Lib.hid (HL5.out.trans hkA)
  clear hkA
  go_wp2_with fail
  refine HS.out.mono ?_
  rintro e w6 ⟨rfl, kk⟩
  have HL6 := Lib.hid (HLA.out.trans kk)
  clear kk HS HR HB HLA
  have HC := Lib.hid (leaf_c T1 _ 5 (tx [68]) w6 (HT.out.kept (HK1.out.trans HL6.out)) (tab_kept HM.out HL6.out) t1_small)
  rw [ck6_4] at HC
  go_wp2_with fail
  refine HC.out.mono ?_
  rintro e w7 ⟨rfl, kk⟩
  have HL7 := Lib.hid (HL6.out.trans kk)
  clear kk HC
  go_wp2_with fail
  go_ret
  exact ⟨by first | rfl | simp, HK1.out.trans HL7.out⟩

end Go.Proofs.YthooiofaicdhgaaGreatDoor
