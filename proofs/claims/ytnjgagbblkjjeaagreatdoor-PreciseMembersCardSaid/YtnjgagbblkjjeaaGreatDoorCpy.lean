/- The contract of table.copied: a method with a list of parameters of its own. -/
import Derived.Test.YtnjgagbblkjjeaaGreatDoorFie
import Derived.Deep.RegionLaw
set_option linter.unusedSimpArgs false
set_option linter.unusedVariables false
set_option maxRecDepth 100000
namespace Go.Proofs.YtnjgagbblkjjeaaGreatDoor
open Go.ChangeShapes Go.WideShapes Go.ChangeAt Go.RowKit Go.Shelf

/-- A copy of a method: its parameters lie in a block of its own. -/
def Copy (w w' : World) (v : Value) (m : Tab.M) : Prop :=
  ∃ p, v = .agg #[.string m.name, p, .string m.res] ∧ w'.ownsRow w.heap.size 50 2 p m.params.length (m.params.flatMap vCells) ∧ Kept w w'

theorem cpy_end {w W1 w1 : World} {m : Tab.M} {p : Value} (hO : Only (fun k => k = w.heap.size ∨ w.heap.size + 1 ≤ k) W1 w1)
    (hV : Blk w1 w.heap.size 53 #[.string ⟨#[]⟩, .slice none 0 0, .string ⟨#[]⟩]) (hW : w1.ownsRow (w.heap.size + 1) 50 2 p (0 + m.params.length) ([] ++ m.params.flatMap vCells)) (hK : Kept w W1) :
    Blk (((w1.setCell ⟨w.heap.size, 0, none⟩ (.string m.name)).setCell ⟨w.heap.size, 1, none⟩ p).setCell ⟨w.heap.size, 2, none⟩ (.string m.res)) w.heap.size 53 #[.string m.name, p, .string m.res] ∧
      Copy w (((w1.setCell ⟨w.heap.size, 0, none⟩ (.string m.name)).setCell ⟨w.heap.size, 1, none⟩ p).setCell ⟨w.heap.size, 2, none⟩ (.string m.res)) (.agg #[.string m.name, p, .string m.res]) m := by
  have hP : Only (· = w.heap.size) w1 (((w1.setCell ⟨w.heap.size, 0, none⟩ (.string m.name)).setCell ⟨w.heap.size, 1, none⟩ p).setCell ⟨w.heap.size, 2, none⟩ (.string m.res)) := (((Only.refl _ w1).put 0 _).put 1 _).put 2 _
  refine ⟨((hV.put 0 _).put 1 _).put 2 _, p, rfl, ?_, ?_⟩
  · rw [Nat.zero_add, List.nil_append] at hW
    exact owns_base (owns_only hW hP (fun g hg => by omega)) (by omega)
  · exact (hK.onlyS hO (fun k h => by omega)).onlyS hP (fun k h => by omega)

set_option maxHeartbeats 4000000 in
theorem copied_c (b o : Nat) (m : Tab.M) (w : World) (h : SigAt w b o m) (hp : m.params.length ≤ 1000) :
    Calls Tryz.prog 99 #[.pointer (some ⟨b, o, none⟩)] w fun e w' => ∃ v, e = .returned v ∧ Copy w w' v m := by
  obtain ⟨i0, hi, hz0, hzz1, hzz2⟩ := info_parts info_var
  have HH := Lib.hid h
  clear h
  go_enter Tryz.func99, Tryz.ntmps99
  go_wp2
  obtain ⟨W1, hW1⟩ : ∃ W1, w.alloc (.cells #[.string ⟨#[]⟩, .slice none 0 0, .string ⟨#[]⟩] 53) = W1 := ⟨_, rfl⟩
  have HB := Lib.hid (show Blk W1.drew w.heap.size 53 #[.string ⟨#[]⟩, .slice none 0 0, .string ⟨#[]⟩] by rw [← hW1]; exact Blk.new _ _ _)
  have HK1 := Lib.hid (show Kept w W1.drew by rw [← hW1]; exact ((Kept.refl w).alloc _).drew)
  have HZ := Lib.hid (show w.heap.size + 1 ≤ W1.drew.heap.size by rw [← hW1]; simp)
  rw [hW1]
  clear hW1
  obtain ⟨hc0, ⟨u, hc1, hu⟩, hc2, _⟩ := HH.out.kept HK1.out
  obtain ⟨ua, un, uc, rfl⟩ : ∃ a n c, u = .slice a n c := by obtain ⟨a, c, e, _⟩ := hu; exact ⟨_, _, _, e⟩
  have HS := Lib.hid (src_vars hu)
  simp only [World.cell?_drew] at hc0 hc1 hc2
  clear hu
  go_region_law (refine step_apk rfl (.const (.slice none 0 0)) (.tmp 10) 43 43 rfl (w.heap.size + 1) 2 50 i0 _ 32 Tryz.underlying43 hi hz0 hzz1 hzz2 rfl rfl (World.ownsRow_nil _ _ _ _) rfl HS.out (by unfold maxLen; omega) (by omega) HZ.out ?_; intro v' w1 hown' hgrow _ _; have HO := Lib.hid (app_only (Only.refl (fun k => k = w.heap.size ∨ w.heap.size + 1 ≤ k) W1.drew) (World.ownsRow_nil _ (w.heap.size + 1) 50 2) hgrow HZ.out); have HV := Lib.hid (HB.out.grownBy hgrow (fun h => by cases h)); have HW := Lib.hid hown'; have hb0 := HV.out.cell 0; have hb1 := HV.out.cell 1; have hb2 := HV.out.cell 2; have hf0 := HV.out.frozen 0; have hf1 := HV.out.frozen 1; have hf2 := HV.out.frozen 2; obtain ⟨hd0, ⟨u', hd1, _⟩, hd2, _⟩ := HH.out.kept (HK1.out.onlyS HO.out (fun k h => by omega)); obtain ⟨av', nv', cv', rfl⟩ := owns_slice hown'; simp at hb0 hb1 hb2; clear hgrow hown')
  all_goals
    go_wp2
    have hF := cpy_end HO.out HV.out HW.out HK1.out
    clear hb0 hb1 hb2 hf0 hf1 hf2 hd0 hd1 hd2 hc0 hc1 hc2 HB HS HH
    have e0 := hF.1.cell 0
    have e1 := hF.1.cell 1
    have e2 := hF.1.cell 2
    simp only [List.getElem?_toArray, List.getElem?_cons_zero, List.getElem?_cons_succ] at e0 e1 e2
    have HF := Lib.hid hF.2
    clear hF
    generalize ((w1.setCell ⟨w.heap.size, 0, none⟩ (Value.string m.name)).setCell ⟨w.heap.size, 1, none⟩ (Value.slice av' nv' cv')).setCell ⟨w.heap.size, 2, none⟩ (Value.string m.res) = Wf at e0 e1 e2 HF ⊢
    exact bodyPost_ret (v := .agg #[.string m.name, .slice av' nv' cv', .string m.res]) (by simp [results, Tryz.results99, go_sem, e0, e1, e2]) rfl ⟨_, rfl, HF.out⟩

end Go.Proofs.YtnjgagbblkjjeaaGreatDoor
