/- What is told of types: both, one, and each way in which an operation takes types. -/
import Derived.Test.YtcaailiijmjdlaaGreatDoorZto
set_option linter.unusedSimpArgs false
set_option linter.unusedVariables false
set_option maxRecDepth 100000
namespace Go.Proofs.YtcaailiijmjdlaaGreatDoor
open Go.ChangeShapes Go.WideShapes Go.ChangeAt Go.RowKit
attribute [local go_sem] Oper.semAt_some
open Zp (e0 dy R oper both one goes orR bad tI tR tB tS K)

theorem dyB (s : ByteArray) : (s.toList == ([63] : List UInt8)) = decide (s = dy) := by
  by_cases e : s = dy
  · subst e; kernel_rfl
  · have := teq_no e
    rw [ByteArray.toList_eq dy] at this
    rw [decide_eq_false e]
    exact this
theorem teqB (s t : ByteArray) : (s.toList == t.toList) = decide (s = t) := by
  by_cases e : s = t
  · rw [decide_eq_true e]; exact teq_yes e
  · rw [decide_eq_false e]; exact teq_no e
theorem own_lit {w : World} {g base : Nat} {t : TypeId} (l : List ByteArray) (hb : Blk w g t (l.map Value.string).toArray) (hm : l.length ≤ 100) (hg : base ≤ g) : w.ownsRow base t 1 (.slice (some ⟨g, 0, none⟩) l.length l.length) l.length (l.map Value.string) :=
  ⟨by simp, .inr ⟨g, _, _, rfl, hg, hb, Nat.le_refl _, txLen hm, by simp, by rw [Nat.mul_one]; exact List.take_of_length_le (by simp)⟩⟩
theorem src_one (W : World) (x : ByteArray) : Src Tryz.prog 1 50 (.slice (some ⟨W.heap.size, 0, none⟩) 1 1) 1 [.string x] (W.alloc (.cells #[.string x] 9)) :=
  Src.ofSlice (P := Tryz.prog) (size := 1) (tx := 50) _ Tryz.underlying50 ⟨W.heap.size, 0, none⟩ 1 1 [.string x] rfl (cell_one_new W _ _) (by simp [Value.oneCell'])

theorem str_info : ∃ i0, Tryz.prog.info? 9 = some i0 ∧ i0.zero = some (.string ⟨#[]⟩) ∧ i0.size = 1 ∧ i0.bytes = 16 := by
  have h : (Tryz.prog.info? 9).map (fun i => (i.zero, i.size, i.bytes)) = some (some (.string ⟨#[]⟩), 1, 16) := by kernel_rfl
  cases hi : Tryz.prog.info? 9 with
  | none => rw [hi] at h; cases h
  | some i =>
    rw [hi] at h
    have h' : (i.zero, i.size, i.bytes) = (some (.string ⟨#[]⟩), 1, 16) := Option.some.inj h
    injection h' with a b
    injection b with b c
    exact ⟨i, rfl, a, b, c⟩
theorem slice_of_ownsZ {w : World} {base k : Nat} {e : TypeId} {v : Value} {n : Nat} {xs : List Value} (h : w.ownsRow base e k v n xs) : ∃ a c, v = .slice a n c := by
  rcases h.2 with ⟨rfl, rfl⟩ | ⟨g, cap, cur, rfl, _⟩
  · exact ⟨none, 0, rfl⟩
  · exact ⟨_, _, rfl⟩
theorem op_endO {fn : Func} {q u : Tmp} {a : Act} {w W : World} {r : R} {a0 a1 a2 : Value} {g : Nat} (hf : fn.results = #[.cell q opT, .tmp u]) (hd : a.defers = []) (hp : a.tmps.getD q undef = .pointer (some ⟨w.heap.size, 0, none⟩)) (hv : a.tmps.getD u undef = .int .i64 r.err)
    (hb : Blk W w.heap.size opT #[a0, a1, a2]) (hk : Only (· = g) w W) (hg : g < w.heap.size) : bodyPost Tryz.prog fn (fun e w' => e = .returned r.val ∧ Only (· = g) w w') .ret a (put3 W w.heap.size (.string r.arg) (.string r.res) (.bool r.dyn)) := by
  refine bodyPost_ret (op_results hf _ _ hp hv (put3_blk hb _ _ _)) hd ⟨rfl, ?_⟩
  have h1 := put3_only W w.heap.size (.string r.arg) (.string r.res) (.bool r.dyn)
  exact ⟨h1.os.trans hk.os, h1.output.trans hk.output, Nat.le_trans hk.size h1.size, fun k hk' hB => (h1.block k (Nat.lt_of_lt_of_le hk' hk.size) (by omega)).trans (hk.block k hk' hB)⟩

set_option maxHeartbeats 2000000 in
theorem zboth_c (res l r : ByteArray) (T : List ByteArray) (n : Nat) (hn : n = T.length) (hT : T.length ≤ 10) (vt : Value) (g : Nat) (w : World) (a c : _) (hvt : vt = .slice a 2 c) (h : TxR w vt [l, r]) (hb : Blk w g 9 (T.map Value.string).toArray) :
    Calls Tryz.prog 129 #[vt, .string res, .slice (some ⟨g, 0, none⟩) n n] w fun e w' => e = .returned (both res T l r).val ∧ Only (· = g) w w' := by
  subst hvt hn
  obtain ⟨W0, hW0⟩ : ∃ W, w.alloc (.cells opZ opT) = W := ⟨_, rfl⟩
  have k0 : Kept w W0 := by rw [← hW0]; exact (Kept.refl _).alloc _
  have b0 : Blk W0 w.heap.size opT opZ := by rw [← hW0]; exact Blk.new _ _ _
  obtain ⟨a', c', e, hc1, hc2, hat⟩ := h
  injection e with e1 e2 e3
  subst e1 e3
  obtain ⟨b, o, rfl, h0⟩ := hat 0 l rfl
  obtain ⟨b', o', e, h1⟩ := hat 1 r rfl
  injection e with e; injection e with e1 e2; subst e1 e2
  unfold TxB at h0 h1
  have x0 := k0.cell h0
  have x1 := k0.cell h1
  simp only [Nat.zero_mul, Nat.add_zero, Nat.one_mul] at x0 x1
  have f0 := b0.frozen 0
  have f1 := b0.frozen 1
  have f2 := b0.frozen 2
  have y0 := b0.cell 0
  have y1 := b0.cell 1
  have y2 := b0.cell 2
  simp at y0 y1 y2
  have hgl := hb.lt
  have HGL := Lib.hid (show g < w.heap.size from hgl)
  have HW0 := Lib.hid hW0
  have HK := Lib.hid k0
  have HB := Lib.hid b0
  have HT := Lib.hid (hb.kept k0)
  have d1 := dyB l
  have d2 := dyB r
  have d3 := teqB r (goes l r)
  have hc2' : (2 : Int) ≤ c := by simp at hc1; omega
  clear hW0 k0 b0 hb hat h0 h1 hgl
  have HTL := Lib.hid hT
  obtain ⟨i0, hi, hz0, hzz1, hzz2⟩ := str_info
  clear hT hc1
  by_cases hl : l = dy
  · have HX := Lib.hid hl
    rw [decide_eq_true hl] at d1
    have d4 : (r.toList == r.toList) = true := beq_self_eq_true _
    clear d2 d3 hl
    have HXX := HX
    have HE := Lib.hid (show both res T l r = oper r res (T ++ [dy]) by
      unfold both goes
      simp [HX.out])
    obtain ⟨W1, hW1⟩ : ∃ W, W0.alloc (.cells #[.string dy] 9) = W := ⟨_, rfl⟩
    have k1 : Kept W0 W1 := by rw [← hW1]; exact (Kept.refl _).alloc _
    have HS1 : Hid (Src Tryz.prog 1 50 (.slice (some ⟨W0.heap.size, 0, none⟩) 1 1) 1 [.string dy] W1) := Lib.hid (by rw [← hW1]; exact src_one W0 dy)
    have HR1 := Lib.hid (own_lit (base := g) T (HT.out.kept k1) (by have := HTL.out; omega) (Nat.le_refl _))
    have HB1 := Lib.hid (HB.out.kept k1)
    have HK1 := Lib.hid (HK.out.trans k1)
    have HW1 := Lib.hid hW1
    have HL1 := Lib.hid (show g ≤ W1.heap.size by have := HGL.out; have := (HK.out.trans k1).size; omega)
    clear k1 hW1
    go_enter Tryz.func129, Tryz.ntmps129
    go_wp2_with (first | rw [HW0.out] | rw [HW1.out] | (at_builtin; refine wpList_apk rfl (.tmp 31) (.tmp 32) 50 50 rfl g 1 9 i0 _ 16 Tryz.underlying50 hi hz0 hzz1 hzz2 rfl rfl HR1.out rfl HS1.out (by have := HTL.out; unfold maxLen; omega) (by have := HTL.out; omega) HL1.out ?_; intro v2 w2 o2 g2 _; obtain ⟨va, vc, rfl⟩ := slice_of_ownsZ o2; have HO2 := Lib.hid (show Only (· = g) w w2 from (Only.of_kept HK1.out).grown g2 (fun k e => by cases e; exact .inl rfl)); have HB2 := Lib.hid (HB1.out.only (S := (· = g)) ((Only.refl _ _).grown g2 (fun k e => by cases e; exact .inl rfl)) (by have := HGL.out; omega)); have HR2 := Lib.hid (show TxR w2 (.slice va (T.length + 1) vc) (T ++ [dy]) from TxR.owns (by rw [List.map_append]; exact o2)); clear o2 g2))
    refine (zoper_c r res va _ vc _ w2 HR2.out).mono ?_
    rintro e w3 ⟨rfl, k3⟩
    have HB3 := Lib.hid (HB2.out.kept k3)
    have HO3 := Lib.hid (HO2.out.trans (Only.of_kept k3))
    have g0 := HB3.out.frozen 0
    have g1 := HB3.out.frozen 1
    have g2 := HB3.out.frozen 2
    have z0 := HB3.out.cell 0
    have z1 := HB3.out.cell 1
    have z2 := HB3.out.cell 2
    simp at z0 z1 z2
    clear k3
    unfold Zp.R.val
    go_wp2_with fail
    rw [HE.out]
    exact op_endO (by rfl) rfl rfl rfl HB3.out HO3.out HGL.out
  · rw [decide_eq_false hl] at d1
    have hgo : goes l r = l := if_neg hl
    rw [hgo] at d3
    by_cases hr : r = l
    · rw [decide_eq_true hr] at d3
      have HX := Lib.hid (show ¬ l = dy ∧ r = l from ⟨hl, hr⟩)
      clear d2 hl hr hgo
      have HXX := HX
      have HE := Lib.hid (show both res T l r = oper l res (T ++ [dy]) by
        unfold both goes
        simp [HX.out])
      obtain ⟨W1, hW1⟩ : ∃ W, W0.alloc (.cells #[.string dy] 9) = W := ⟨_, rfl⟩
      have k1 : Kept W0 W1 := by rw [← hW1]; exact (Kept.refl _).alloc _
      have HS1 : Hid (Src Tryz.prog 1 50 (.slice (some ⟨W0.heap.size, 0, none⟩) 1 1) 1 [.string dy] W1) := Lib.hid (by rw [← hW1]; exact src_one W0 dy)
      have HR1 := Lib.hid (own_lit (base := g) T (HT.out.kept k1) (by have := HTL.out; omega) (Nat.le_refl _))
      have HB1 := Lib.hid (HB.out.kept k1)
      have HK1 := Lib.hid (HK.out.trans k1)
      have HW1 := Lib.hid hW1
      have HL1 := Lib.hid (show g ≤ W1.heap.size by have := HGL.out; have := (HK.out.trans k1).size; omega)
      clear k1 hW1
      go_enter Tryz.func129, Tryz.ntmps129
      go_wp2_with (first | rw [HW0.out] | rw [HW1.out] | (at_builtin; refine wpList_apk rfl (.tmp 31) (.tmp 32) 50 50 rfl g 1 9 i0 _ 16 Tryz.underlying50 hi hz0 hzz1 hzz2 rfl rfl HR1.out rfl HS1.out (by have := HTL.out; unfold maxLen; omega) (by have := HTL.out; omega) HL1.out ?_; intro v2 w2 o2 g2 _; obtain ⟨va, vc, rfl⟩ := slice_of_ownsZ o2; have HO2 := Lib.hid (show Only (· = g) w w2 from (Only.of_kept HK1.out).grown g2 (fun k e => by cases e; exact .inl rfl)); have HB2 := Lib.hid (HB1.out.only (S := (· = g)) ((Only.refl _ _).grown g2 (fun k e => by cases e; exact .inl rfl)) (by have := HGL.out; omega)); have HR2 := Lib.hid (show TxR w2 (.slice va (T.length + 1) vc) (T ++ [dy]) from TxR.owns (by rw [List.map_append]; exact o2)); clear o2 g2))
      refine (zoper_c l res va _ vc _ w2 HR2.out).mono ?_
      rintro e w3 ⟨rfl, k3⟩
      have HB3 := Lib.hid (HB2.out.kept k3)
      have HO3 := Lib.hid (HO2.out.trans (Only.of_kept k3))
      have g0 := HB3.out.frozen 0
      have g1 := HB3.out.frozen 1
      have g2 := HB3.out.frozen 2
      have z0 := HB3.out.cell 0
      have z1 := HB3.out.cell 1
      have z2 := HB3.out.cell 2
      simp at z0 z1 z2
      clear k3
      unfold Zp.R.val
      go_wp2_with fail
      rw [HE.out]
      exact op_endO (by rfl) rfl rfl rfl HB3.out HO3.out HGL.out
    · rw [decide_eq_false hr] at d3
      by_cases hq : r = dy
      · rw [decide_eq_true hq] at d2
        have HX := Lib.hid (show ¬ l = dy ∧ ¬ r = l ∧ r = dy from ⟨hl, hr, hq⟩)
        clear hl hr hgo hq
        have HXX := HX
        have HE := Lib.hid (show both res T l r = oper l res (T ++ [dy]) by
          unfold both goes
          simp [HX.out])
        obtain ⟨W1, hW1⟩ : ∃ W, W0.alloc (.cells #[.string dy] 9) = W := ⟨_, rfl⟩
        have k1 : Kept W0 W1 := by rw [← hW1]; exact (Kept.refl _).alloc _
        have HS1 : Hid (Src Tryz.prog 1 50 (.slice (some ⟨W0.heap.size, 0, none⟩) 1 1) 1 [.string dy] W1) := Lib.hid (by rw [← hW1]; exact src_one W0 dy)
        have HR1 := Lib.hid (own_lit (base := g) T (HT.out.kept k1) (by have := HTL.out; omega) (Nat.le_refl _))
        have HB1 := Lib.hid (HB.out.kept k1)
        have HK1 := Lib.hid (HK.out.trans k1)
        have HW1 := Lib.hid hW1
        have HL1 := Lib.hid (show g ≤ W1.heap.size by have := HGL.out; have := (HK.out.trans k1).size; omega)
        clear k1 hW1
        go_enter Tryz.func129, Tryz.ntmps129
        go_wp2_with (first | rw [HW0.out] | rw [HW1.out] | (at_builtin; refine wpList_apk rfl (.tmp 31) (.tmp 32) 50 50 rfl g 1 9 i0 _ 16 Tryz.underlying50 hi hz0 hzz1 hzz2 rfl rfl HR1.out rfl HS1.out (by have := HTL.out; unfold maxLen; omega) (by have := HTL.out; omega) HL1.out ?_; intro v2 w2 o2 g2 _; obtain ⟨va, vc, rfl⟩ := slice_of_ownsZ o2; have HO2 := Lib.hid (show Only (· = g) w w2 from (Only.of_kept HK1.out).grown g2 (fun k e => by cases e; exact .inl rfl)); have HB2 := Lib.hid (HB1.out.only (S := (· = g)) ((Only.refl _ _).grown g2 (fun k e => by cases e; exact .inl rfl)) (by have := HGL.out; omega)); have HR2 := Lib.hid (show TxR w2 (.slice va (T.length + 1) vc) (T ++ [dy]) from TxR.owns (by rw [List.map_append]; exact o2)); clear o2 g2))
        refine (zoper_c l res va _ vc _ w2 HR2.out).mono ?_
        rintro e w3 ⟨rfl, k3⟩
        have HB3 := Lib.hid (HB2.out.kept k3)
        have HO3 := Lib.hid (HO2.out.trans (Only.of_kept k3))
        have g0 := HB3.out.frozen 0
        have g1 := HB3.out.frozen 1
        have g2 := HB3.out.frozen 2
        have z0 := HB3.out.cell 0
        have z1 := HB3.out.cell 1
        have z2 := HB3.out.cell 2
        simp at z0 z1 z2
        clear k3
        unfold Zp.R.val
        go_wp2_with fail
        rw [HE.out]
        exact op_endO (by rfl) rfl rfl rfl HB3.out HO3.out HGL.out
      · rw [decide_eq_false hq] at d2
        have HE := Lib.hid (show both res T l r = bad 7 by unfold both; rw [hgo]; simp [hr, hq])
        clear hl hr hgo hq
        go_enter Tryz.func129, Tryz.ntmps129
        go_wp2_with (first | rw [HW0.out])
        rw [HE.out]
        exact op_endO (r := bad 7) (by rfl) rfl rfl rfl HB.out (Only.of_kept HK.out) HGL.out
end Go.Proofs.YtcaailiijmjdlaaGreatDoor
