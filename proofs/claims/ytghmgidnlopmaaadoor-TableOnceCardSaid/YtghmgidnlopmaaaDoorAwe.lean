/- The law's helpers: a table's fault held against one, and some of the chapter's examples. -/
import Derived.Test.YtghmgidnlopmaaaDoorTwo
import Derived.Test.YtghmgidnlopmaaaDoorSam
import Derived.Test.YtghmgidnlopmaaaDoorSup
set_option linter.unusedSimpArgs false
set_option linter.unusedVariables false
set_option maxRecDepth 100000
namespace Go.Proofs.YtghmgidnlopmaaaDoor
open Go.ChangeShapes Go.WideShapes Go.ChangeAt Go.RowKit

theorem faulty_y (t : List Tab.C) (v : Value) (e i : Int) (w : World) (hT : Tb w) (h : TabAt w v t) (hS : Small t) (hc : Tab.check t = (e, i)) :
    Calls Tryd.prog 15 #[.int .i64 e, .int .i64 i, v] w fun r w' => r = .returned (.bool true) ∧ Kept w w' := by
  obtain ⟨a, c, rfl, h1, h2, h3⟩ := id h
  have H := Lib.hid (check_c t a c w hT h hS)
  rw [hc] at H
  clear h h1 h2 h3 hT hc
  go_enter Tryd.func15, Tryd.ntmps15
  go_wp2_with fail
  refine H.out.mono ?_
  rintro r w1 ⟨rfl, k1⟩
  go_wp2_with fail
  go_ret
  exact ⟨by first | rfl | simp, k1⟩

/-- A class without fields and methods. -/
abbrev lone (n s : ByteArray) : Tab.C := ⟨n, s, [], []⟩
theorem tab_one {W : World} {g : Nat} {n s : ByteArray} (h : Blk W g 45 #[.string n, .string s, .slice none 0 0, .slice none 0 0]) (h1 : n.size ≤ maxLen) (h2 : s.size ≤ maxLen) : TabAt W (.slice (some ⟨g, 0, none⟩) 1 1) [lone n s] :=
  row_one ⟨h.cell 0, h.cell 1, ⟨_, h.cell 2, Row.nil⟩, ⟨_, h.cell 3, Row.nil⟩, h1, h2⟩
theorem small_lones (l : List (ByteArray × ByteArray)) (h : l.length ≤ 1000) : Small (l.map fun x => lone x.1 x.2) := by
  refine ⟨by simpa using h, ?_, ?_, ?_⟩ <;> (intro c hc; obtain ⟨x, _, rfl⟩ := List.mem_map.1 hc; simp)

theorem ck_two : Tab.check (twoT (tx [121]) (tx [63])) = (0, 0) := by kernel_rfl
theorem ck_cycle : Tab.check [lone (tx [65]) (tx [65])] = (9, 0) := by kernel_rfl
theorem sup_two : Tab.supers (twoT (tx [121]) (tx [63])) (tx [66]) = [tx [66], tx [65]] := by kernel_rfl

set_option maxHeartbeats 2000000 in
theorem awake_c (w : World) (hT : Tb w) : Calls Tryd.prog 16 #[] w fun e w' => e = .returned (.bool true) ∧ Kept w w' := by
  have HT := Lib.hid hT
  clear hT
  go_enter Tryd.func16, Tryd.ntmps16
  go_wp2_with fail
  refine (two_c w).mono ?_
  rintro e w1 ⟨rfl, hm, k1, _⟩
  have HM1 := Lib.hid hm
  have HK1 := Lib.hid k1
  clear hm k1
  go_wp2_with fail
  refine (faulty_y _ _ 0 0 w1 (HT.out.kept HK1.out) (HM1.out.tab (by decide) (by decide)) (two_small _ _) ck_two).mono ?_
  rintro e w2 ⟨rfl, k2⟩
  have HK2 := Lib.hid (HK1.out.trans k2)
  clear k2
  go_wp2_with fail
  refine (two_c w2).mono ?_
  rintro e w3 ⟨rfl, hm, k3, _⟩
  have HM3 := Lib.hid hm
  have HK3 := Lib.hid (HK2.out.trans k3)
  clear hm k3
  go_wp2_with fail
  refine (supers_b _ _ _ (tx [66]) w3 (HM3.out.tab (by decide) (by decide)) (two_small _ _).len).mono ?_
  rintro e w4 ⟨v, rfl, hr, k4⟩
  rw [sup_two] at hr
  have HR4 := Lib.hid hr
  have HK4 := Lib.hid (HK3.out.trans k4)
  obtain ⟨va, vc, rfl, _⟩ := hr
  clear k4
  have hkA : Kept w4 (w4.alloc (.cells #[.string (tx [66]), .string (tx [65])] 9)) := (Kept.refl w4).alloc _
  have HB4 := Lib.hid (Blk.new w4 9 #[.string (tx [66]), .string (tx [65])])
  have HS4 := Lib.hid (sameTexts_y [tx [66], tx [65]] _ (.slice (some ⟨w4.heap.size, 0, none⟩) 2 2) _ (HR4.out.mono fun b o x r => hkA.cell r) (row_two (R := TxtR) (HB4.out.cell 0) (HB4.out.cell 1)))
  have HKA := Lib.hid (HK4.out.trans hkA)
  clear hkA
  go_wp2_with fail
  refine HS4.out.mono ?_
  rintro e w5 ⟨rfl, k5⟩
  have HK5 := Lib.hid (HKA.out.trans k5)
  clear k5
  have hkB : Kept w5 (w5.alloc (.cells #[.string (tx [65]), .string (tx [65]), .slice none 0 0, .slice none 0 0] 45)) := (Kept.refl w5).alloc _
  have HF5 := Lib.hid (faulty_y [lone (tx [65]) (tx [65])] (.slice (some ⟨w5.heap.size, 0, none⟩) 1 1) 9 0 _ (HT.out.kept (HK5.out.trans hkB)) (tab_one (Blk.new w5 _ _) (sz _ (by decide)) (sz _ (by decide))) (small_lones [(tx [65], tx [65])] (by decide)) ck_cycle)
  have HKB := Lib.hid (HK5.out.trans hkB)
  clear hkB
  go_wp2_with fail
  refine HF5.out.mono ?_
  rintro e w6 ⟨rfl, k6⟩
  go_wp2_with fail
  go_ret
  exact ⟨rfl, HKB.out.trans k6⟩

end Go.Proofs.YtghmgidnlopmaaaDoor
