/- What an operation makes of values, or the trap in which it ends: (operations).do. -/
import Derived.Test.YtcaailiijmjdlaaGreatDoorZvd
import Derived.Test.YtcaailiijmjdlaaGreatDoorZtr
import Derived.Recover
import Derived.Defers
set_option linter.unusedSimpArgs false
set_option linter.unusedVariables false
set_option maxRecDepth 100000
namespace Go.Proofs.YtcaailiijmjdlaaGreatDoor
open Go.ChangeShapes Go.WideShapes Go.ChangeAt Go.RowKit Flo
attribute [local go_sem] Oper.semAt_some
open Zp (V R Out)

/-- A value, a trap, an error. -/
structure Zp.D where
  v : V
  trap : Int
  err : Int
abbrev Zp.D.val (d : Zp.D) : Value := .tuple #[d.v.p, .int .i64 d.trap, .int .i64 d.err]
abbrev Zp.badD (e : Int) : Zp.D := ⟨V.z, 0, e⟩
def Zp.Out.d : Out → Zp.D
  | .val v => ⟨v, 0, 0⟩
  | .trap t => ⟨V.z, t, 0⟩
abbrev iT : TypeId := 3
abbrev eT : TypeId := 25

theorem zcatch_none (g h k : Nat) (w : World) :
    CallsD Tryz.prog 102 #[.pointer (some ⟨g, 0, none⟩), .pointer (some ⟨h, 0, none⟩), .pointer (some ⟨k, 0, none⟩)] .returning w fun e u' w' => e = .returned (.tuple #[]) ∧ u' = .returning ∧ Kept w w' := by
  have hta : ∀ w, (Instr.typeAssert .nilIface 20 114 true).run Tryz.prog w = .ok (.tuple #[.int .i64 0, .bool false]) w := fun _ => by kernel_rfl
  refine callsD_of_wpS Tryz.func102 rfl fun c₀ cs hu => ?_
  refine wpS_seq ?_
  refine wpS_region ?_
  simp [wpOpsS, go_sem, recoverD, hu, Tryz.ntmps102, Exit.thenS, hta]
  refine wpS_seq ?_
  refine wpS_region ?_
  simp [wpOpsS, go_sem, Exit.thenS]
  refine wpS_cond (t := false) (by simp [Act.eval, Array.replicate]) ?_
  refine wpS_of_wp ?_
  refine wp_skip ?_
  exact ⟨rfl, .returning, (by cases c₀; simp_all), .tuple #[], results_none rfl _ _ _, rfl, rfl, Kept.refl _⟩

set_option maxHeartbeats 4000000 in
theorem zcatch_trap (g h k : Nat) (t : Int) (x0 x1 x2 x3 x4 y z : Value) (w : World) (hg : Blk w g vT #[x0, x1, x2, x3, x4]) (hh : Blk w h iT #[y]) (hk : Blk w k eT #[z]) (hgh : g ≠ h) (hgk : g ≠ k) (hhk : h ≠ k) :
    CallsD Tryz.prog 102 #[.pointer (some ⟨g, 0, none⟩), .pointer (some ⟨h, 0, none⟩), .pointer (some ⟨k, 0, none⟩)] (.panicking (trV t)) w fun e u' w' => e = .returned (.tuple #[]) ∧ settle u' = .returning ∧
      Blk w' g vT vZ ∧ Blk w' h iT #[.int .i64 t] ∧ Blk w' k eT #[.int .i64 0] ∧ Only (fun b => b = g ∨ b = h ∨ b = k) w w' := by
  have hta : ∀ w, (Instr.typeAssert (.iface 114 (.int .i64 t)) 20 114 true).run Tryz.prog w = .ok (.tuple #[.int .i64 t, .bool true]) w := fun _ => by kernel_rfl
  refine callsD_of_wpS Tryz.func102 rfl fun c₀ cs hu => ?_
  refine wpS_seq ?_
  refine wpS_region ?_
  simp [wpOpsS, go_sem, recoverD, hu, Tryz.ntmps102, Exit.thenS, hta]
  refine wpS_seq ?_
  refine wpS_region ?_
  simp [wpOpsS, go_sem, Exit.thenS]
  refine wpS_cond (t := true) (by simp [Act.eval, Array.replicate]) ?_
  refine wpS_of_wp ?_
  obtain ⟨⟨a0, a1, a2, a3, a4⟩, f0, f1, f2, f3, f4⟩ := blk5 hg
  obtain ⟨W1, hW1⟩ : ∃ W, put5 w g (.int .i64 0) (.int .i64 0) (.int .u64 0) (.string ⟨#[]⟩) (.slice none 0 0) = W := ⟨_, rfl⟩
  have o1 : Only (· = g) w W1 := by rw [← hW1]; exact put5_only _ _ _ _ _ _ _
  have b1 : Blk W1 g vT vZ := by rw [← hW1]; exact put5_blk hg _ _ _ _ _
  have h1 := hh.only o1 (fun e => hgh e.symm)
  have k1 := hk.only o1 (fun e => hgk e.symm)
  obtain ⟨W2, hW2⟩ : ∃ W, W1.setCell ⟨h, 0, none⟩ (.int .i64 t) = W := ⟨_, rfl⟩
  have o2 : Only (· = h) W1 W2 := by rw [← hW2]; exact (Only.refl _ _).put 0 _
  have h2 : Blk W2 h iT #[.int .i64 t] := by rw [← hW2]; have := h1.put 0 (.int .i64 t); simpa using this
  have b2 := b1.only o2 hgh
  have k2 := k1.only o2 (fun e => hhk e.symm)
  obtain ⟨W3, hW3⟩ : ∃ W, W2.setCell ⟨k, 0, none⟩ (.int .i64 0) = W := ⟨_, rfl⟩
  have o3 : Only (· = k) W2 W3 := by rw [← hW3]; exact (Only.refl _ _).put 0 _
  have k3 : Blk W3 k eT #[.int .i64 0] := by rw [← hW3]; have := k2.put 0 (.int .i64 0); simpa using this
  have h3 := h2.only o3 hhk
  have b3 := b2.only o3 hgk
  have HO := Lib.hid (show Only (fun b => b = g ∨ b = h ∨ b = k) w W3 from ((o1.mono (fun b _ e => .inl e)).trans (o2.mono (fun b _ e => .inr (.inl e)))).trans (o3.mono (fun b _ e => .inr (.inr e))))
  have HB := Lib.hid (And.intro b3 (And.intro h3 k3))
  have c1 := h1.cell 0
  have c2 := k2.cell 0
  have d1 := h1.frozen 0
  have d2 := k2.frozen 0
  simp at c1 c2
  have HW1 := Lib.hid (show ((((w.setCell ⟨g, 0, none⟩ (.int .i64 0)).setCell ⟨g, 1, none⟩ (.int .i64 0)).setCell ⟨g, 2, none⟩ (.int .u64 0)).setCell ⟨g, 3, none⟩ (.string ⟨#[]⟩)).setCell ⟨g, 4, none⟩ (.slice none 0 0) = W1 from hW1)
  have HW2 := Lib.hid hW2
  have HW3 := Lib.hid hW3
  clear hg hh hk hgh hgk hhk hW1 hW2 hW3 o1 o2 o3 b1 b2 b3 h1 h2 h3 k1 k2 k3 hta
  go_wp2_with (first | rw [HW1.out] | rw [HW2.out] | rw [HW3.out])
  exact ⟨rfl, _, rfl, .tuple #[], results_none rfl _ _ _, rfl, rfl, HB.out.1, HB.out.2.1, HB.out.2.2, HO.out⟩

theorem do_results {fn : Func} {p q r : Tmp} (h : fn.results = #[.cell p vT, .cell q iT, .cell r eT]) (tmps : Array Value) (W : World) {g g' g'' : Nat} {x0 x1 x2 x3 x4 y z : Value}
    (hp : tmps.getD p undef = .pointer (some ⟨g, 0, none⟩)) (hq : tmps.getD q undef = .pointer (some ⟨g', 0, none⟩)) (hr : tmps.getD r undef = .pointer (some ⟨g'', 0, none⟩))
    (hg : Blk W g vT #[x0, x1, x2, x3, x4]) (hg' : Blk W g' iT #[y]) (hg'' : Blk W g'' eT #[z]) (hy : ∃ n, y = .int .i64 n) (hz : ∃ n, z = .int .i64 n) :
    (results fn tmps).run Tryz.prog W = .ok (.tuple #[.agg #[x0, x1, x2, x3, x4], y, z]) W := by
  obtain ⟨n, rfl⟩ := hy
  obtain ⟨m, rfl⟩ := hz
  have hp' : tmps[p]?.getD undef = .pointer (some ⟨g, 0, none⟩) := by simpa using hp
  have hq' : tmps[q]?.getD undef = .pointer (some ⟨g', 0, none⟩) := by simpa using hq
  have hr' : tmps[r]?.getD undef = .pointer (some ⟨g'', 0, none⟩) := by simpa using hr
  have e3 := run_loadVar_row (P := Tryz.prog) W g vT vT #[x0, x1, x2, x3, x4] (0, 0) _ hg Tryz.underlying32 (by rfl) (by kernel_rfl)
  have e1 : (loadVar iT ⟨g', 0, none⟩).run Tryz.prog W = .ok (.int .i64 n) W := by
    have := hg'.cell 0
    simp at this
    go_simp
  have e2 : (loadVar eT ⟨g'', 0, none⟩).run Tryz.prog W = .ok (.int .i64 m) W := by
    have := hg''.cell 0
    simp at this
    go_simp
  simp [results, h, hp', hq', hr', asAddr, e1, e2, e3]

set_option maxHeartbeats 4000000 in
theorem zdo_none (op : ByteArray) (hs : op.size ≤ maxLen) (f) (m n F : Nat) (a : Option Addr) (k c : Nat) (w : World) (hM : MapF Tryz.prog 9 m n f w) (hf : f op = none) :
    Calls Tryz.prog 54 #[.map (some m), .string op, .slice a k c] w fun e w' => e = .returned (Zp.badD 2).val ∧ Kept w w' := by
  have hnn : ∀ w, (binOp .eql 105 .nilFunc .nilFunc).run Tryz.prog w = .ok (.bool true) w := fun w => by kernel_rfl
  obtain ⟨W0, hW0⟩ : ∃ W, w.alloc (.cells vZ vT) = W := ⟨_, rfl⟩
  obtain ⟨k0, b0, z0⟩ := vnew hW0
  obtain ⟨W1, hW1⟩ : ∃ W, W0.alloc (.cells #[.int .i64 0] iT) = W := ⟨_, rfl⟩
  obtain ⟨k1, b1, z1⟩ := vnew hW1
  obtain ⟨W2, hW2⟩ : ∃ W, W1.alloc (.cells #[.int .i64 0] eT) = W := ⟨_, rfl⟩
  obtain ⟨k2, b2, z2⟩ := vnew hW2
  have kk2 := (k0.trans k1).trans k2
  have hl := zlook (hM.only (S := fun _ => False) (Only.of_kept kk2) (fun h => h)) op hs
  rw [hf] at hl
  simp only [Option.getD_some, Option.getD_none, Option.isSome_none, Option.isSome_some] at hl
  obtain ⟨W4, hW4⟩ : ∃ W, W2.alloc (.cells #[.nilFunc, .nilFunc] 107) = W := ⟨_, rfl⟩
  obtain ⟨k4, b4, z4⟩ := vnew hW4
  have hz2 : W2.heap.size = w.heap.size + 3 := by omega
  rw [hz2] at b4
  obtain ⟨W5, hW5⟩ : ∃ W, (W4.setCell ⟨w.heap.size + 3, 0, none⟩ (.nilFunc)).setCell ⟨w.heap.size + 3, 1, none⟩ (.nilFunc) = W := ⟨_, rfl⟩
  have k5 : Kept W2 W5 := by rw [← hW5]; exact (k4.setCell (Nat.le_of_eq hz2) _).setCell (Nat.le_of_eq hz2) _
  have b5 : Blk W5 (w.heap.size + 3) 107 #[.nilFunc, .nilFunc] := by rw [← hW5]; have := (b4.put 0 (.nilFunc)).put 1 (.nilFunc); simpa using this
  have r0 : W4.cell? ⟨w.heap.size + 3, 0, none⟩ = some .nilFunc := b4.cell 0
  have r1 : W4.cell? ⟨w.heap.size + 3, 1, none⟩ = some .nilFunc := b4.cell 1
  have r2 : W4.frozen? ⟨w.heap.size + 3, 0, none⟩ = false := b4.frozen 0
  have r3 : W4.frozen? ⟨w.heap.size + 3, 1, none⟩ = false := b4.frozen 1
  have p0 : W5.cell? ⟨w.heap.size + 3, 0, none⟩ = some (.nilFunc) := b5.cell 0
  have p1 : W5.cell? ⟨w.heap.size + 3, 1, none⟩ = some (.nilFunc) := b5.cell 1
  have HB0 := Lib.hid ((b0.kept (k1.trans k2)).kept k5)
  have HB1 := Lib.hid (show Blk W5 (w.heap.size + 1) iT #[.int .i64 0] by rw [← z0]; exact (b1.kept k2).kept k5)
  have HB2 := Lib.hid (show Blk W5 (w.heap.size + 2) eT #[.int .i64 0] by rw [show w.heap.size + 2 = W1.heap.size by omega]; exact b2.kept k5)
  have HB5 := Lib.hid b5
  have HK5 := Lib.hid (kk2.trans k5)
  have HZ := Lib.hid hz2
  have HW0 := Lib.hid hW0
  have HW1 := Lib.hid hW1
  have HW2 := Lib.hid hW2
  have HW4 := Lib.hid hW4
  have HW5 := Lib.hid hW5
  have zz1 : W1.heap.size = w.heap.size + 2 := by omega
  clear hW0 hW1 hW2 hW4 hW5 k0 k1 k2 k4 k5 kk2 b0 b1 b2 b4 b5 hM hf hs z1 z2 z4
  obtain ⟨⟨c0, c1, c2, c3, c4⟩, d0, d1, d2, d3, d4⟩ := blk5 HB0.out
  obtain ⟨X1, hX1⟩ : ∃ W, put5 W5 w.heap.size (.int .i64 0) (.int .i64 0) (.int .u64 0) (.string ⟨#[]⟩) (.slice none 0 0) = W := ⟨_, rfl⟩
  have o1 : Only (· = w.heap.size) W5 X1 := by rw [← hX1]; exact put5_only _ _ _ _ _ _ _
  have y0 : Blk X1 w.heap.size vT vZ := by rw [← hX1]; exact put5_blk HB0.out _ _ _ _ _
  have y1 := HB1.out.only o1 (by omega)
  have y2 := HB2.out.only o1 (by omega)
  obtain ⟨X2, hX2⟩ : ∃ W, X1.setCell ⟨w.heap.size + 1, 0, none⟩ (.int .i64 0) = W := ⟨_, rfl⟩
  have o2 : Only (· = w.heap.size + 1) X1 X2 := by rw [← hX2]; exact (Only.refl _ _).put 0 _
  have u1 : Blk X2 (w.heap.size + 1) iT #[.int .i64 0] := by rw [← hX2]; have := y1.put 0 (.int .i64 0); simpa using this
  have u0 := y0.only o2 (by omega)
  have u2 := y2.only o2 (by omega)
  obtain ⟨X3, hX3⟩ : ∃ W, X2.setCell ⟨w.heap.size + 2, 0, none⟩ (.int .i64 2) = W := ⟨_, rfl⟩
  have o3 : Only (· = w.heap.size + 2) X2 X3 := by rw [← hX3]; exact (Only.refl _ _).put 0 _
  have v2 : Blk X3 (w.heap.size + 2) eT #[.int .i64 2] := by rw [← hX3]; have := u2.put 0 (.int .i64 2); simpa using this
  have v0 := u0.only o3 (by omega)
  have v1 := u1.only o3 (by omega)
  have e1 := y1.cell 0
  have e2 := u2.cell 0
  have g1 := y1.frozen 0
  have g2 := u2.frozen 0
  simp at e1 e2
  have HV := Lib.hid (And.intro v0 (And.intro v1 v2))
  have HKV := Lib.hid (show Kept w X3 from ((HK5.out.only o1 rfl (fun k e => by omega)).only o2 rfl (fun k e => by omega)).only o3 rfl (fun k e => by omega))
  have HX1 := Lib.hid (show ((((W5.setCell ⟨w.heap.size, 0, none⟩ (.int .i64 0)).setCell ⟨w.heap.size, 1, none⟩ (.int .i64 0)).setCell ⟨w.heap.size, 2, none⟩ (.int .u64 0)).setCell ⟨w.heap.size, 3, none⟩ (.string ⟨#[]⟩)).setCell ⟨w.heap.size, 4, none⟩ (.slice none 0 0) = X1 from hX1)
  have HX2 := Lib.hid hX2
  have HX3 := Lib.hid hX3
  clear hX1 hX2 hX3 o1 o2 o3 y0 y1 y2 u0 u1 u2 v0 v1 v2
  go_enter_defers Tryz.func54, Tryz.ntmps54
  go_wp2_with (first | rw [HW0.out] | rw [z0] | rw [HW1.out] | rw [zz1] | rw [HW2.out] | rw [hl] | rw [HW4.out] | rw [HW5.out] | rw [HX1.out] | rw [HX2.out] | rw [HX3.out])
  exact ⟨_, do_results (by rfl) _ _ rfl rfl rfl HV.out.1 HV.out.2.1 HV.out.2.2 ⟨_, rfl⟩ ⟨_, rfl⟩, rfl, HKV.out⟩

set_option maxHeartbeats 4000000 in
theorem zdo_nil (op : ByteArray) (hs : op.size ≤ maxLen) (f) (m n F : Nat) (a : Option Addr) (k c : Nat) (w : World) (hM : MapF Tryz.prog 9 m n f w) (hf : f op = some (wayV F .nilFunc)) :
    Calls Tryz.prog 54 #[.map (some m), .string op, .slice a k c] w fun e w' => e = .returned (Zp.badD 2).val ∧ Kept w w' := by
  have hnn : ∀ w, (binOp .eql 105 .nilFunc .nilFunc).run Tryz.prog w = .ok (.bool true) w := fun w => by kernel_rfl
  obtain ⟨W0, hW0⟩ : ∃ W, w.alloc (.cells vZ vT) = W := ⟨_, rfl⟩
  obtain ⟨k0, b0, z0⟩ := vnew hW0
  obtain ⟨W1, hW1⟩ : ∃ W, W0.alloc (.cells #[.int .i64 0] iT) = W := ⟨_, rfl⟩
  obtain ⟨k1, b1, z1⟩ := vnew hW1
  obtain ⟨W2, hW2⟩ : ∃ W, W1.alloc (.cells #[.int .i64 0] eT) = W := ⟨_, rfl⟩
  obtain ⟨k2, b2, z2⟩ := vnew hW2
  have kk2 := (k0.trans k1).trans k2
  have hl := zlook (hM.only (S := fun _ => False) (Only.of_kept kk2) (fun h => h)) op hs
  rw [hf] at hl
  simp only [Option.getD_some, Option.getD_none, Option.isSome_none, Option.isSome_some] at hl
  obtain ⟨W4, hW4⟩ : ∃ W, W2.alloc (.cells #[.nilFunc, .nilFunc] 107) = W := ⟨_, rfl⟩
  obtain ⟨k4, b4, z4⟩ := vnew hW4
  have hz2 : W2.heap.size = w.heap.size + 3 := by omega
  rw [hz2] at b4
  obtain ⟨W5, hW5⟩ : ∃ W, (W4.setCell ⟨w.heap.size + 3, 0, none⟩ (fnV F)).setCell ⟨w.heap.size + 3, 1, none⟩ (.nilFunc) = W := ⟨_, rfl⟩
  have k5 : Kept W2 W5 := by rw [← hW5]; exact (k4.setCell (Nat.le_of_eq hz2) _).setCell (Nat.le_of_eq hz2) _
  have b5 : Blk W5 (w.heap.size + 3) 107 #[fnV F, .nilFunc] := by rw [← hW5]; have := (b4.put 0 (fnV F)).put 1 (.nilFunc); simpa using this
  have r0 : W4.cell? ⟨w.heap.size + 3, 0, none⟩ = some .nilFunc := b4.cell 0
  have r1 : W4.cell? ⟨w.heap.size + 3, 1, none⟩ = some .nilFunc := b4.cell 1
  have r2 : W4.frozen? ⟨w.heap.size + 3, 0, none⟩ = false := b4.frozen 0
  have r3 : W4.frozen? ⟨w.heap.size + 3, 1, none⟩ = false := b4.frozen 1
  have p0 : W5.cell? ⟨w.heap.size + 3, 0, none⟩ = some (fnV F) := b5.cell 0
  have p1 : W5.cell? ⟨w.heap.size + 3, 1, none⟩ = some (.nilFunc) := b5.cell 1
  have HB0 := Lib.hid ((b0.kept (k1.trans k2)).kept k5)
  have HB1 := Lib.hid (show Blk W5 (w.heap.size + 1) iT #[.int .i64 0] by rw [← z0]; exact (b1.kept k2).kept k5)
  have HB2 := Lib.hid (show Blk W5 (w.heap.size + 2) eT #[.int .i64 0] by rw [show w.heap.size + 2 = W1.heap.size by omega]; exact b2.kept k5)
  have HB5 := Lib.hid b5
  have HK5 := Lib.hid (kk2.trans k5)
  have HZ := Lib.hid hz2
  have HW0 := Lib.hid hW0
  have HW1 := Lib.hid hW1
  have HW2 := Lib.hid hW2
  have HW4 := Lib.hid hW4
  have HW5 := Lib.hid hW5
  have zz1 : W1.heap.size = w.heap.size + 2 := by omega
  clear hW0 hW1 hW2 hW4 hW5 k0 k1 k2 k4 k5 kk2 b0 b1 b2 b4 b5 hM hf hs z1 z2 z4
  obtain ⟨⟨c0, c1, c2, c3, c4⟩, d0, d1, d2, d3, d4⟩ := blk5 HB0.out
  obtain ⟨X1, hX1⟩ : ∃ W, put5 W5 w.heap.size (.int .i64 0) (.int .i64 0) (.int .u64 0) (.string ⟨#[]⟩) (.slice none 0 0) = W := ⟨_, rfl⟩
  have o1 : Only (· = w.heap.size) W5 X1 := by rw [← hX1]; exact put5_only _ _ _ _ _ _ _
  have y0 : Blk X1 w.heap.size vT vZ := by rw [← hX1]; exact put5_blk HB0.out _ _ _ _ _
  have y1 := HB1.out.only o1 (by omega)
  have y2 := HB2.out.only o1 (by omega)
  obtain ⟨X2, hX2⟩ : ∃ W, X1.setCell ⟨w.heap.size + 1, 0, none⟩ (.int .i64 0) = W := ⟨_, rfl⟩
  have o2 : Only (· = w.heap.size + 1) X1 X2 := by rw [← hX2]; exact (Only.refl _ _).put 0 _
  have u1 : Blk X2 (w.heap.size + 1) iT #[.int .i64 0] := by rw [← hX2]; have := y1.put 0 (.int .i64 0); simpa using this
  have u0 := y0.only o2 (by omega)
  have u2 := y2.only o2 (by omega)
  obtain ⟨X3, hX3⟩ : ∃ W, X2.setCell ⟨w.heap.size + 2, 0, none⟩ (.int .i64 2) = W := ⟨_, rfl⟩
  have o3 : Only (· = w.heap.size + 2) X2 X3 := by rw [← hX3]; exact (Only.refl _ _).put 0 _
  have v2 : Blk X3 (w.heap.size + 2) eT #[.int .i64 2] := by rw [← hX3]; have := u2.put 0 (.int .i64 2); simpa using this
  have v0 := u0.only o3 (by omega)
  have v1 := u1.only o3 (by omega)
  have e1 := y1.cell 0
  have e2 := u2.cell 0
  have g1 := y1.frozen 0
  have g2 := u2.frozen 0
  simp at e1 e2
  have HV := Lib.hid (And.intro v0 (And.intro v1 v2))
  have HKV := Lib.hid (show Kept w X3 from ((HK5.out.only o1 rfl (fun k e => by omega)).only o2 rfl (fun k e => by omega)).only o3 rfl (fun k e => by omega))
  have HX1 := Lib.hid (show ((((W5.setCell ⟨w.heap.size, 0, none⟩ (.int .i64 0)).setCell ⟨w.heap.size, 1, none⟩ (.int .i64 0)).setCell ⟨w.heap.size, 2, none⟩ (.int .u64 0)).setCell ⟨w.heap.size, 3, none⟩ (.string ⟨#[]⟩)).setCell ⟨w.heap.size, 4, none⟩ (.slice none 0 0) = X1 from hX1)
  have HX2 := Lib.hid hX2
  have HX3 := Lib.hid hX3
  clear hX1 hX2 hX3 o1 o2 o3 y0 y1 y2 u0 u1 u2 v0 v1 v2
  go_enter_defers Tryz.func54, Tryz.ntmps54
  go_wp2_with (first | rw [HW0.out] | rw [z0] | rw [HW1.out] | rw [zz1] | rw [HW2.out] | rw [hl] | rw [HW4.out] | rw [HW5.out] | rw [HX1.out] | rw [HX2.out] | rw [HX3.out])
  exact ⟨_, do_results (by rfl) _ _ rfl rfl rfl HV.out.1 HV.out.2.1 HV.out.2.2 ⟨_, rfl⟩ ⟨_, rfl⟩, rfl, HKV.out⟩

theorem leaves_of {P : Program} {fn : Func} {t t' : Array Value} {R : Ending → World → Prop} (h : results fn t = results fn t') : ∀ (ds : List Deferred) (u : FrameMode) (w : World), Leaves P fn t R ds u w → Leaves P fn t' R ds u w
  | [], .returning, w, ⟨v, h1, h2⟩ => ⟨v, by rw [← h]; exact h1, h2⟩
  | [], .panicking _, w, k => k
  | [], .run, _, k => k
  | d :: ds, u, w, ⟨a, fv, cap, f, args, b, c, k⟩ => ⟨a, fv, cap, f, args, b, c, k.mono fun e u' w' hk => by
      cases e with
      | returned v => exact leaves_of h ds _ _ hk
      | panicked c => exact leaves_of h ds _ _ hk
      | outgrown => exact hk⟩
theorem zpanic {R : Ending → World → Prop} {d : Tmp} {v : Value} {c : List PanicEntry} {a : Act} {w : World} (hd : d ≠ 6 ∧ d ≠ 7 ∧ d ≠ 8) (h : bodyPostD Tryz.prog Tryz.f54 R (.panic c) (a.put (some d) v) w) : bodyPostD Tryz.prog Tryz.f54 R (.panic c) a w := by
  refine leaves_of ?_ _ _ _ h
  have hr : Tryz.f54.results = #[.cell 6 vT, .cell 7 iT, .cell 8 eT] := by rfl
  obtain ⟨h6, h7, h8⟩ := hd
  simp [results, hr, Act.put, Array.getElem?_setIfInBounds, h6, h7, h8]
def zdoV (r : R) (o : Out) : Zp.D := if r.err = 0 then o.d else Zp.badD r.err
set_option maxHeartbeats 16000000 in
theorem zdo_some (op : ByteArray) (hs : op.size ≤ maxLen) (f) (m n F G : Nat) (r : R) (o : Out) (l : List V) (a : Option Addr) (c : Nat) (w : World) (hn : l.length ≤ 10) (hT : Tb w) (hvl : VlR w (.slice a l.length c) l) (hM : MapF Tryz.prog 9 m n f w) (hf : f op = some (wayV F (fnV G)))
    (heg : ∀ args w, (callFunc F args).run Tryz.prog w = .ok (.enter F args) w) (hegG : ∀ args w, (callFunc G args).run Tryz.prog w = .ok (.enter G args) w)
    (hF : ∀ W a' c', Kept w W → TxR W (.slice a' l.length c') (l.map fun x => Wrd.ofT x.tag) → Calls Tryz.prog F #[.slice a' l.length c'] W fun e w' => e = .returned r.val ∧ Kept W w')
    (hG : r.err = 0 → ∀ W, Kept w W → Calls Tryz.prog G #[.slice a l.length c, .string op] W (OutPost o W)) :
    Calls Tryz.prog 54 #[.map (some m), .string op, .slice a l.length c] w fun e w' => e = .returned (zdoV r o).val ∧ Kept w w' := by
  have hnn : ∀ w, (binOp .eql 105 (fnV G) .nilFunc).run Tryz.prog w = .ok (.bool false) w := fun w => by kernel_rfl
  have hmf : ∀ (fn : Fn) (first cap : Array Value) (w : World), (Instr.makeFunc fn first cap).run Tryz.prog w = .ok (.func fn first cap) w := fun _ _ _ _ => rfl
  obtain ⟨W0, hW0⟩ : ∃ W, w.alloc (.cells vZ vT) = W := ⟨_, rfl⟩
  obtain ⟨k0, b0, z0⟩ := vnew hW0
  obtain ⟨W1, hW1⟩ : ∃ W, W0.alloc (.cells #[.int .i64 0] iT) = W := ⟨_, rfl⟩
  obtain ⟨k1, b1, z1⟩ := vnew hW1
  obtain ⟨W2, hW2⟩ : ∃ W, W1.alloc (.cells #[.int .i64 0] eT) = W := ⟨_, rfl⟩
  obtain ⟨k2, b2, z2⟩ := vnew hW2
  have kk2 := (k0.trans k1).trans k2
  have hl := zlook (hM.only (S := fun _ => False) (Only.of_kept kk2) (fun h => h)) op hs
  rw [hf] at hl
  simp only [Option.getD_some, Option.getD_none, Option.isSome_none, Option.isSome_some] at hl
  obtain ⟨W4, hW4⟩ : ∃ W, W2.alloc (.cells #[.nilFunc, .nilFunc] 107) = W := ⟨_, rfl⟩
  obtain ⟨k4, b4, z4⟩ := vnew hW4
  have hz2 : W2.heap.size = w.heap.size + 3 := by omega
  rw [hz2] at b4
  obtain ⟨W5, hW5⟩ : ∃ W, (W4.setCell ⟨w.heap.size + 3, 0, none⟩ (fnV F)).setCell ⟨w.heap.size + 3, 1, none⟩ (fnV G) = W := ⟨_, rfl⟩
  have k5 : Kept W2 W5 := by rw [← hW5]; exact (k4.setCell (Nat.le_of_eq hz2) _).setCell (Nat.le_of_eq hz2) _
  have b5 : Blk W5 (w.heap.size + 3) 107 #[fnV F, fnV G] := by rw [← hW5]; have := (b4.put 0 (fnV F)).put 1 (fnV G); simpa using this
  have r0 : W4.cell? ⟨w.heap.size + 3, 0, none⟩ = some .nilFunc := b4.cell 0
  have r1 : W4.cell? ⟨w.heap.size + 3, 1, none⟩ = some .nilFunc := b4.cell 1
  have r2 : W4.frozen? ⟨w.heap.size + 3, 0, none⟩ = false := b4.frozen 0
  have r3 : W4.frozen? ⟨w.heap.size + 3, 1, none⟩ = false := b4.frozen 1
  have p0 : W5.cell? ⟨w.heap.size + 3, 0, none⟩ = some (fnV F) := b5.cell 0
  have p1 : W5.cell? ⟨w.heap.size + 3, 1, none⟩ = some (fnV G) := b5.cell 1
  have HB0 := Lib.hid ((b0.kept (k1.trans k2)).kept k5)
  have HB1 := Lib.hid (show Blk W5 (w.heap.size + 1) iT #[.int .i64 0] by rw [← z0]; exact (b1.kept k2).kept k5)
  have HB2 := Lib.hid (show Blk W5 (w.heap.size + 2) eT #[.int .i64 0] by rw [show w.heap.size + 2 = W1.heap.size by omega]; exact b2.kept k5)
  have HB5 := Lib.hid b5
  have HK5 := Lib.hid (kk2.trans k5)
  have HZ := Lib.hid hz2
  have HW0 := Lib.hid hW0
  have HW1 := Lib.hid hW1
  have HW2 := Lib.hid hW2
  have HW4 := Lib.hid hW4
  have HW5 := Lib.hid hW5
  have zz1 : W1.heap.size = w.heap.size + 2 := by omega
  clear hW0 hW1 hW2 hW4 hW5 k0 k1 k2 k4 k5 kk2 b0 b1 b2 b4 b5 hM hf hs z1 z2 z4
  have HVL := Lib.hid hvl
  have HTb := Lib.hid hT
  have HF := Lib.hid hF
  have HG := Lib.hid hG
  have HNL := Lib.hid hn
  clear hvl hT hF hG hn
  go_enter_defers Tryz.func54, Tryz.ntmps54
  go_wp2_with (first | rw [HW0.out] | rw [z0] | rw [HW1.out] | rw [zz1] | rw [HW2.out] | rw [hl] | rw [HW4.out] | rw [HW5.out])
  obtain ⟨D, hD⟩ : ∃ D, W5.drew = D := ⟨_, rfl⟩
  replace HB0 := Lib.hid (show Blk D w.heap.size vT vZ by rw [← hD]; exact HB0.out.drew)
  replace HB1 := Lib.hid (show Blk D (w.heap.size + 1) iT #[.int .i64 0] by rw [← hD]; exact HB1.out.drew)
  replace HB2 := Lib.hid (show Blk D (w.heap.size + 2) eT #[.int .i64 0] by rw [← hD]; exact HB2.out.drew)
  replace HB5 := Lib.hid (show Blk D (w.heap.size + 3) 107 #[fnV F, fnV G] by rw [← hD]; exact HB5.out.drew)
  replace HK5 := Lib.hid (show Kept w D by rw [← hD]; exact HK5.out.drew)
  refine wp_region_till (S := (fun W => W.cell? ⟨w.heap.size + 3, 0, none⟩ = some (fnV F))) 10 (by kernel_rfl) (by rw [hD]; exact HB5.out.cell 0) (fun hHeld0 => ?_)
  rw [hD] at hHeld0 ⊢
  clear hD
  refine wpAnyT_take (i := 0) (v := ?_) rfl (by kernel_rfl) (by kernel_rfl) (by kernel_rfl) (fun _ _ _ h => zpanic (by decide) h) (Or.inl ⟨by kernel_rfl, ?_⟩) (by assumption) ?_
  rotate_left
  · intro w hSw; (try dsimp only at hSw); go_simp; (try with_reducible rfl)
  (try simp only [Act.put, List.getElem_toArray, List.getElem_cons_zero, List.getElem_cons_succ, List.setIfInBounds_toArray, List.set_cons_zero, List.set_cons_succ])
  refine wpAnyT_take (i := 1) (v := ?_) rfl (by kernel_rfl) (by kernel_rfl) (by kernel_rfl) (fun _ _ _ h => zpanic (by decide) h) (Or.inl ⟨by kernel_rfl, ?_⟩) (by assumption) ?_
  rotate_left
  · intro w hSw; (try dsimp only at hSw); go_simp; (try with_reducible rfl)
  (try simp only [Act.put, List.getElem_toArray, List.getElem_cons_zero, List.getElem_cons_succ, List.setIfInBounds_toArray, List.set_cons_zero, List.set_cons_succ])
  refine wpAnyT_take (i := 2) (v := ?_) rfl (by kernel_rfl) (by kernel_rfl) (by kernel_rfl) (fun _ _ _ h => zpanic (by decide) h) (Or.inl ⟨by kernel_rfl, ?_⟩) (by assumption) ?_
  rotate_left
  · intro w hSw; (try dsimp only at hSw); go_simp; (try with_reducible rfl)
  (try simp only [Act.put, List.getElem_toArray, List.getElem_cons_zero, List.getElem_cons_succ, List.setIfInBounds_toArray, List.set_cons_zero, List.set_cons_succ])
  refine wpAnyT_ready (rs := [3,8]) (by kernel_rfl) (by simp) ?_
  refine AllReadyT.cons rfl (fun K hK => ?_) (AllReadyT.cons rfl (fun K hK => ?_) AllReadyT.nil)
  · go_simp
    refine (typesOf_c l a l.length c D HNL.out (HVL.out.kept (HK5.out.trans (Kept.refl _))) (HTb.out.kept (HK5.out.trans (Kept.refl _)))).mono ?_
    rintro e x3 ⟨a3, c3, rfl, t3, k3⟩
    have kq := ((Kept.refl _)).trans k3
    refine hK.out _ _ ((HB5.out.kept kq).cell 0) (fun hHeld3 => ?_)
    clear hK K
    (try simp only [Act.put, List.getElem_toArray, List.getElem_cons_zero, List.getElem_cons_succ, List.setIfInBounds_toArray, List.set_cons_zero, List.set_cons_succ])
    clear k3
    refine wpAnyT_ready (rs := [4,8]) (by kernel_rfl) (by simp) ?_
    refine AllReadyT.cons rfl (fun K hK => ?_) (AllReadyT.cons rfl (fun K hK => ?_) AllReadyT.nil)
    · go_simp
      have HFF := Lib.hid (HF.out x3 a3 c3 (HK5.out.trans kq) t3)
      refine HFF.out.mono ?_
      rintro e x4 ⟨rfl, k4⟩
      have HK4S := Lib.hid (show D.heap.size ≤ x4.heap.size from (kq.trans k4).size)
      unfold Zp.R.val
      have kq4 := kq.trans k4
      clear kq
      have kq := kq4
      clear kq4
      refine hK.out _ _ ((HB5.out.kept kq).cell 0) (fun hHeld4 => ?_)
      clear hK K
      (try simp only [Act.put, List.getElem_toArray, List.getElem_cons_zero, List.getElem_cons_succ, List.setIfInBounds_toArray, List.set_cons_zero, List.set_cons_succ])
      refine wpAnyT_take (i := 5) (v := ?_) rfl (by kernel_rfl) (by kernel_rfl) (by kernel_rfl) (fun _ _ _ h => zpanic (by decide) h) (Or.inl ⟨by kernel_rfl, ?_⟩) (by assumption) ?_
      rotate_left
      · intro w hSw; (try dsimp only at hSw); go_simp; (try with_reducible rfl)
      (try simp only [Act.put, List.getElem_toArray, List.getElem_cons_zero, List.getElem_cons_succ, List.setIfInBounds_toArray, List.set_cons_zero, List.set_cons_succ])
      refine wpAnyT_take (i := 6) (v := ?_) rfl (by kernel_rfl) (by kernel_rfl) (by kernel_rfl) (fun _ _ _ h => zpanic (by decide) h) (Or.inl ⟨by kernel_rfl, ?_⟩) (by assumption) ?_
      rotate_left
      · intro w hSw; (try dsimp only at hSw); go_simp; (try with_reducible rfl)
      (try simp only [Act.put, List.getElem_toArray, List.getElem_cons_zero, List.getElem_cons_succ, List.setIfInBounds_toArray, List.set_cons_zero, List.set_cons_succ])
      refine wpAnyT_take (i := 7) (v := ?_) rfl (by kernel_rfl) (by kernel_rfl) (by kernel_rfl) (fun _ _ _ h => zpanic (by decide) h) (Or.inl ⟨by kernel_rfl, ?_⟩) (by assumption) ?_
      rotate_left
      · intro w hSw; (try dsimp only at hSw); go_simp; (try with_reducible rfl)
      (try simp only [Act.put, List.getElem_toArray, List.getElem_cons_zero, List.getElem_cons_succ, List.setIfInBounds_toArray, List.set_cons_zero, List.set_cons_succ])
      refine wpAnyT_ready (rs := [8]) (by kernel_rfl) (by simp) ?_
      refine AllReadyT.cons rfl (fun K hK => ?_) AllReadyT.nil
      go_simp
      obtain ⟨x8, hx8⟩ : ∃ W, x4.alloc (.cells opZ opT) = W := ⟨_, rfl⟩
      obtain ⟨k8, b8, z8⟩ := vnew hx8
      rw [hx8]
      have kq8 := kq.trans k8
      clear kq
      have kq := kq8
      clear kq8
      refine hK.out _ _ ((HB5.out.kept kq).cell 0) (fun hHeld8 => ?_)
      clear hK K
      (try simp only [Act.put, List.getElem_toArray, List.getElem_cons_zero, List.getElem_cons_succ, List.setIfInBounds_toArray, List.set_cons_zero, List.set_cons_succ])
      have HG8 := Lib.hid (show D.heap.size ≤ x4.heap.size by have := kq.size; have := z8; have h1 := HK4S.out; omega)
      obtain ⟨z80, z81, z82, g80, g81, g82⟩ := blk3 b8
      obtain ⟨V9, hV9⟩ : ∃ W, put3 x8 x4.heap.size (.string r.arg) (.string r.res) (.bool r.dyn) = W := ⟨_, rfl⟩
      have o9 : Only (· = x4.heap.size) x8 V9 := by rw [← hV9]; exact put3_only _ _ _ _ _
      have kq9 : Kept D V9 := kq.only o9 rfl (fun k e => by rw [e]; exact HG8.out)
      have HV9 := Lib.hid (show ((x8.setCell ⟨x4.heap.size, 0, none⟩ (.string r.arg)).setCell ⟨x4.heap.size, 1, none⟩ (.string r.res)).setCell ⟨x4.heap.size, 2, none⟩ (.bool r.dyn) = V9 from hV9)
      clear hV9 o9 kq
      have kq := kq9
      clear kq9
      refine wpAnyT_ready (rs := [9]) (by kernel_rfl) (by simp) ?_
      refine AllReadyT.cons rfl (fun K hK => ?_) AllReadyT.nil
      go_simp
      rw [HV9.out]
      refine hK.out _ _ ((HB5.out.kept kq).cell 0) (fun hHeld9 => ?_)
      clear hK K
      (try simp only [Act.put, List.getElem_toArray, List.getElem_cons_zero, List.getElem_cons_succ, List.setIfInBounds_toArray, List.set_cons_zero, List.set_cons_succ])
      refine wpAnyT_ready (rs := [10]) (by kernel_rfl) (by simp) ?_
      refine AllReadyT.fin rfl (fun K hK => ?_)
      go_simp
      refine hK.out _ _ ?_
      clear hK K
      (try simp only [Act.put, List.getElem_toArray, List.getElem_cons_zero, List.getElem_cons_succ, List.setIfInBounds_toArray, List.set_cons_zero, List.set_cons_succ])
      refine wpAnyT_done (by kernel_rfl) ?_ _
      have HB06 := Lib.hid (HB0.out.kept kq)
      have HB16 := Lib.hid (HB1.out.kept kq)
      have HB26 := Lib.hid (HB2.out.kept kq)
      have q1 : V9.cell? ⟨w.heap.size + 3, 1, none⟩ = some (fnV G) := (HB5.out.kept kq).cell 1
      have HK6 := Lib.hid (HK5.out.trans kq)
      have HK56 := Lib.hid (show Kept D V9 from kq)
      clear kq
      by_cases he : r.err = 0
      · have c0 : (r.err == 0) = true := by rw [he]; rfl
        have HGO := Lib.hid (HG.out he V9 HK6.out)
        have HRE := Lib.hid (show zdoV r o = o.d from if_pos he)
        clear he
        go_wp2_with fail
        refine HGO.out.mono ?_
        rintro e x5 (⟨v, hv, rfl, k5⟩ | ⟨tr, hv, rfl, k5⟩)
        · have HRV := Lib.hid (show zdoV r o = ⟨v, 0, 0⟩ by rw [HRE.out, hv]; rfl)
          have HB07 := Lib.hid (HB06.out.kept k5)
          have HB17 := Lib.hid (HB16.out.kept k5)
          have HB27 := Lib.hid (HB26.out.kept k5)
          have HK7 := Lib.hid (HK6.out.trans k5)
          clear k5 hv
          obtain ⟨⟨c0, c1, c2, c3, c4⟩, d0, d1, d2, d3, d4⟩ := blk5 HB07.out
          obtain ⟨X1, hX1⟩ : ∃ W, put5 x5 w.heap.size (.int .i64 v.tag) (.int .i64 v.n) (.int .u64 (v.bits : Int)) (.string v.s) (.slice none 0 0) = W := ⟨_, rfl⟩
          have o1 : Only (· = w.heap.size) x5 X1 := by rw [← hX1]; exact put5_only _ _ _ _ _ _ _
          have y0 : Blk X1 w.heap.size vT (five v none 0 0) := by rw [← hX1]; exact put5_blk HB07.out _ _ _ _ _
          have y1 := HB17.out.only o1 (by omega)
          have y2 := HB27.out.only o1 (by omega)
          obtain ⟨X2, hX2⟩ : ∃ W, X1.setCell ⟨w.heap.size + 1, 0, none⟩ (.int .i64 0) = W := ⟨_, rfl⟩
          have o2 : Only (· = w.heap.size + 1) X1 X2 := by rw [← hX2]; exact (Only.refl _ _).put 0 _
          have u1 : Blk X2 (w.heap.size + 1) iT #[.int .i64 0] := by rw [← hX2]; have := y1.put 0 (.int .i64 0); simpa using this
          have u0 := y0.only o2 (by omega)
          have u2 := y2.only o2 (by omega)
          obtain ⟨X3, hX3⟩ : ∃ W, X2.setCell ⟨w.heap.size + 2, 0, none⟩ (.int .i64 0) = W := ⟨_, rfl⟩
          have o3 : Only (· = w.heap.size + 2) X2 X3 := by rw [← hX3]; exact (Only.refl _ _).put 0 _
          have v2 : Blk X3 (w.heap.size + 2) eT #[.int .i64 0] := by rw [← hX3]; have := u2.put 0 (.int .i64 0); simpa using this
          have v0 := u0.only o3 (by omega)
          have v1 := u1.only o3 (by omega)
          have e1 := y1.cell 0
          have e2 := u2.cell 0
          have g1 := y1.frozen 0
          have g2 := u2.frozen 0
          simp at e1 e2
          have HV := Lib.hid (And.intro v0 (And.intro v1 v2))
          have HKV := Lib.hid (show Kept w X3 from ((HK7.out.only o1 rfl (fun k e => by omega)).only o2 rfl (fun k e => by omega)).only o3 rfl (fun k e => by omega))
          have HC := Lib.hid (zcatch_none w.heap.size (w.heap.size + 1) (w.heap.size + 2) X3)
          have HX1 := Lib.hid (show ((((x5.setCell ⟨w.heap.size, 0, none⟩ (.int .i64 v.tag)).setCell ⟨w.heap.size, 1, none⟩ (.int .i64 v.n)).setCell ⟨w.heap.size, 2, none⟩ (.int .u64 (v.bits : Int))).setCell ⟨w.heap.size, 3, none⟩ (.string v.s)).setCell ⟨w.heap.size, 4, none⟩ (.slice none 0 0) = X1 from hX1)
          have HX2 := Lib.hid hX2
          have HX3 := Lib.hid hX3
          clear hX1 hX2 hX3 o1 o2 o3 y0 y1 y2 u0 u1 u2 v0 v1 v2
          go_wp2_with (first | rw [HX1.out] | rw [HX2.out] | rw [HX3.out])
          refine leaves_cons (f := 102) (args := #[.pointer (some ⟨w.heap.size, 0, none⟩), .pointer (some ⟨w.heap.size + 1, 0, none⟩), .pointer (some ⟨w.heap.size + 2, 0, none⟩)]) (by simp) (by simp [go_sem]) ?_
          refine HC.out.mono ?_
          rintro r9 u' w9 ⟨rfl, rfl, k9⟩
          show Leaves _ _ _ _ _ _ w9
          rw [HRV.out]
          exact ⟨_, do_results (by rfl) _ _ rfl rfl rfl (HV.out.1.kept k9) (HV.out.2.1.kept k9) (HV.out.2.2.kept k9) ⟨_, rfl⟩ ⟨_, rfl⟩, rfl, HKV.out.trans k9⟩
        · have HRV := Lib.hid (show zdoV r o = ⟨V.z, tr, 0⟩ by rw [HRE.out, hv]; rfl)
          have HK7 := Lib.hid (HK6.out.trans k5)
          have HC := Lib.hid (zcatch_trap w.heap.size (w.heap.size + 1) (w.heap.size + 2) tr _ _ _ _ _ _ _ x5 (HB06.out.kept k5) (HB16.out.kept k5) (HB26.out.kept k5) (by omega) (by omega) (by omega))
          clear k5 hv
          go_wp2_with fail
          refine leaves_cons (f := 102) (args := #[.pointer (some ⟨w.heap.size, 0, none⟩), .pointer (some ⟨w.heap.size + 1, 0, none⟩), .pointer (some ⟨w.heap.size + 2, 0, none⟩)]) (by simp) (by simp [go_sem]) ?_
          refine HC.out.mono ?_
          rintro r9 u' w9 ⟨rfl, hu, v0, v1, v2, o9⟩
          show Leaves _ _ _ _ _ (settle u') w9
          rw [hu, HRV.out]
          exact ⟨_, do_results (by rfl) _ _ rfl rfl rfl v0 v1 v2 ⟨_, rfl⟩ ⟨_, rfl⟩, rfl, HK7.out.only o9 rfl (fun k e => by omega)⟩
      · have c0 : (r.err == 0) = false := by simpa using he
        have HRE := Lib.hid (show zdoV r o = Zp.badD r.err from if_neg he)
        clear he
        obtain ⟨⟨c0, c1, c2, c3, c4⟩, d0, d1, d2, d3, d4⟩ := blk5 HB06.out
        obtain ⟨X1, hX1⟩ : ∃ W, put5 V9 w.heap.size (.int .i64 0) (.int .i64 0) (.int .u64 0) (.string ⟨#[]⟩) (.slice none 0 0) = W := ⟨_, rfl⟩
        have o1 : Only (· = w.heap.size) V9 X1 := by rw [← hX1]; exact put5_only _ _ _ _ _ _ _
        have y0 : Blk X1 w.heap.size vT vZ := by rw [← hX1]; exact put5_blk HB06.out _ _ _ _ _
        have y1 := HB16.out.only o1 (by omega)
        have y2 := HB26.out.only o1 (by omega)
        obtain ⟨X2, hX2⟩ : ∃ W, X1.setCell ⟨w.heap.size + 1, 0, none⟩ (.int .i64 0) = W := ⟨_, rfl⟩
        have o2 : Only (· = w.heap.size + 1) X1 X2 := by rw [← hX2]; exact (Only.refl _ _).put 0 _
        have u1 : Blk X2 (w.heap.size + 1) iT #[.int .i64 0] := by rw [← hX2]; have := y1.put 0 (.int .i64 0); simpa using this
        have u0 := y0.only o2 (by omega)
        have u2 := y2.only o2 (by omega)
        obtain ⟨X3, hX3⟩ : ∃ W, X2.setCell ⟨w.heap.size + 2, 0, none⟩ (.int .i64 r.err) = W := ⟨_, rfl⟩
        have o3 : Only (· = w.heap.size + 2) X2 X3 := by rw [← hX3]; exact (Only.refl _ _).put 0 _
        have v2 : Blk X3 (w.heap.size + 2) eT #[.int .i64 r.err] := by rw [← hX3]; have := u2.put 0 (.int .i64 r.err); simpa using this
        have v0 := u0.only o3 (by omega)
        have v1 := u1.only o3 (by omega)
        have e1 := y1.cell 0
        have e2 := u2.cell 0
        have g1 := y1.frozen 0
        have g2 := u2.frozen 0
        simp at e1 e2
        have HV := Lib.hid (And.intro v0 (And.intro v1 v2))
        have HKV := Lib.hid (show Kept w X3 from ((HK6.out.only o1 rfl (fun k e => by omega)).only o2 rfl (fun k e => by omega)).only o3 rfl (fun k e => by omega))
        have HX1 := Lib.hid (show ((((V9.setCell ⟨w.heap.size, 0, none⟩ (.int .i64 0)).setCell ⟨w.heap.size, 1, none⟩ (.int .i64 0)).setCell ⟨w.heap.size, 2, none⟩ (.int .u64 0)).setCell ⟨w.heap.size, 3, none⟩ (.string ⟨#[]⟩)).setCell ⟨w.heap.size, 4, none⟩ (.slice none 0 0) = X1 from hX1)
        have HX2 := Lib.hid hX2
        have HX3 := Lib.hid hX3
        clear hX1 hX2 hX3 o1 o2 o3 y0 y1 y2 u0 u1 u2 v0 v1 v2
        go_wp2_with (first | rw [HX1.out] | rw [HX2.out] | rw [HX3.out])
        rw [HRE.out]
        exact ⟨_, do_results (by rfl) _ _ rfl rfl rfl HV.out.1 HV.out.2.1 HV.out.2.2 ⟨_, rfl⟩ ⟨_, rfl⟩, rfl, HKV.out⟩
    · go_simp
      obtain ⟨x8, hx8⟩ : ∃ W, x3.alloc (.cells opZ opT) = W := ⟨_, rfl⟩
      obtain ⟨k8, b8, z8⟩ := vnew hx8
      rw [hx8]
      have HG8 := Lib.hid (show D.heap.size ≤ x3.heap.size from kq.size)
      have kq8 := kq.trans k8
      clear kq
      have kq := kq8
      clear kq8
      refine hK.out _ _ ((HB5.out.kept kq).cell 0) (fun hHeld8 => ?_)
      clear hK K
      (try simp only [Act.put, List.getElem_toArray, List.getElem_cons_zero, List.getElem_cons_succ, List.setIfInBounds_toArray, List.set_cons_zero, List.set_cons_succ])
      refine wpAnyT_ready (rs := [4]) (by kernel_rfl) (by simp) ?_
      refine AllReadyT.cons rfl (fun K hK => ?_) AllReadyT.nil
      go_simp
      have HFF := Lib.hid (HF.out x8 a3 c3 (HK5.out.trans kq) (t3.kept k8))
      refine HFF.out.mono ?_
      rintro e x4 ⟨rfl, k4⟩
      unfold Zp.R.val
      have kq4 := kq.trans k4
      clear kq
      have kq := kq4
      clear kq4
      refine hK.out _ _ ((HB5.out.kept kq).cell 0) (fun hHeld4 => ?_)
      clear hK K
      (try simp only [Act.put, List.getElem_toArray, List.getElem_cons_zero, List.getElem_cons_succ, List.setIfInBounds_toArray, List.set_cons_zero, List.set_cons_succ])
      refine wpAnyT_take (i := 5) (v := ?_) rfl (by kernel_rfl) (by kernel_rfl) (by kernel_rfl) (fun _ _ _ h => zpanic (by decide) h) (Or.inl ⟨by kernel_rfl, ?_⟩) (by assumption) ?_
      rotate_left
      · intro w hSw; (try dsimp only at hSw); go_simp; (try with_reducible rfl)
      (try simp only [Act.put, List.getElem_toArray, List.getElem_cons_zero, List.getElem_cons_succ, List.setIfInBounds_toArray, List.set_cons_zero, List.set_cons_succ])
      refine wpAnyT_take (i := 6) (v := ?_) rfl (by kernel_rfl) (by kernel_rfl) (by kernel_rfl) (fun _ _ _ h => zpanic (by decide) h) (Or.inl ⟨by kernel_rfl, ?_⟩) (by assumption) ?_
      rotate_left
      · intro w hSw; (try dsimp only at hSw); go_simp; (try with_reducible rfl)
      (try simp only [Act.put, List.getElem_toArray, List.getElem_cons_zero, List.getElem_cons_succ, List.setIfInBounds_toArray, List.set_cons_zero, List.set_cons_succ])
      refine wpAnyT_take (i := 7) (v := ?_) rfl (by kernel_rfl) (by kernel_rfl) (by kernel_rfl) (fun _ _ _ h => zpanic (by decide) h) (Or.inl ⟨by kernel_rfl, ?_⟩) (by assumption) ?_
      rotate_left
      · intro w hSw; (try dsimp only at hSw); go_simp; (try with_reducible rfl)
      (try simp only [Act.put, List.getElem_toArray, List.getElem_cons_zero, List.getElem_cons_succ, List.setIfInBounds_toArray, List.set_cons_zero, List.set_cons_succ])
      obtain ⟨z80, z81, z82, g80, g81, g82⟩ := blk3 (b8.kept k4)
      obtain ⟨V9, hV9⟩ : ∃ W, put3 x4 x3.heap.size (.string r.arg) (.string r.res) (.bool r.dyn) = W := ⟨_, rfl⟩
      have o9 : Only (· = x3.heap.size) x4 V9 := by rw [← hV9]; exact put3_only _ _ _ _ _
      have kq9 : Kept D V9 := kq.only o9 rfl (fun k e => by rw [e]; exact HG8.out)
      have HV9 := Lib.hid (show ((x4.setCell ⟨x3.heap.size, 0, none⟩ (.string r.arg)).setCell ⟨x3.heap.size, 1, none⟩ (.string r.res)).setCell ⟨x3.heap.size, 2, none⟩ (.bool r.dyn) = V9 from hV9)
      clear hV9 o9 kq
      have kq := kq9
      clear kq9
      refine wpAnyT_ready (rs := [9]) (by kernel_rfl) (by simp) ?_
      refine AllReadyT.cons rfl (fun K hK => ?_) AllReadyT.nil
      go_simp
      rw [HV9.out]
      refine hK.out _ _ ((HB5.out.kept kq).cell 0) (fun hHeld9 => ?_)
      clear hK K
      (try simp only [Act.put, List.getElem_toArray, List.getElem_cons_zero, List.getElem_cons_succ, List.setIfInBounds_toArray, List.set_cons_zero, List.set_cons_succ])
      refine wpAnyT_ready (rs := [10]) (by kernel_rfl) (by simp) ?_
      refine AllReadyT.fin rfl (fun K hK => ?_)
      go_simp
      refine hK.out _ _ ?_
      clear hK K
      (try simp only [Act.put, List.getElem_toArray, List.getElem_cons_zero, List.getElem_cons_succ, List.setIfInBounds_toArray, List.set_cons_zero, List.set_cons_succ])
      refine wpAnyT_done (by kernel_rfl) ?_ _
      have HB06 := Lib.hid (HB0.out.kept kq)
      have HB16 := Lib.hid (HB1.out.kept kq)
      have HB26 := Lib.hid (HB2.out.kept kq)
      have q1 : V9.cell? ⟨w.heap.size + 3, 1, none⟩ = some (fnV G) := (HB5.out.kept kq).cell 1
      have HK6 := Lib.hid (HK5.out.trans kq)
      have HK56 := Lib.hid (show Kept D V9 from kq)
      clear kq
      by_cases he : r.err = 0
      · have c0 : (r.err == 0) = true := by rw [he]; rfl
        have HGO := Lib.hid (HG.out he V9 HK6.out)
        have HRE := Lib.hid (show zdoV r o = o.d from if_pos he)
        clear he
        go_wp2_with fail
        refine HGO.out.mono ?_
        rintro e x5 (⟨v, hv, rfl, k5⟩ | ⟨tr, hv, rfl, k5⟩)
        · have HRV := Lib.hid (show zdoV r o = ⟨v, 0, 0⟩ by rw [HRE.out, hv]; rfl)
          have HB07 := Lib.hid (HB06.out.kept k5)
          have HB17 := Lib.hid (HB16.out.kept k5)
          have HB27 := Lib.hid (HB26.out.kept k5)
          have HK7 := Lib.hid (HK6.out.trans k5)
          clear k5 hv
          obtain ⟨⟨c0, c1, c2, c3, c4⟩, d0, d1, d2, d3, d4⟩ := blk5 HB07.out
          obtain ⟨X1, hX1⟩ : ∃ W, put5 x5 w.heap.size (.int .i64 v.tag) (.int .i64 v.n) (.int .u64 (v.bits : Int)) (.string v.s) (.slice none 0 0) = W := ⟨_, rfl⟩
          have o1 : Only (· = w.heap.size) x5 X1 := by rw [← hX1]; exact put5_only _ _ _ _ _ _ _
          have y0 : Blk X1 w.heap.size vT (five v none 0 0) := by rw [← hX1]; exact put5_blk HB07.out _ _ _ _ _
          have y1 := HB17.out.only o1 (by omega)
          have y2 := HB27.out.only o1 (by omega)
          obtain ⟨X2, hX2⟩ : ∃ W, X1.setCell ⟨w.heap.size + 1, 0, none⟩ (.int .i64 0) = W := ⟨_, rfl⟩
          have o2 : Only (· = w.heap.size + 1) X1 X2 := by rw [← hX2]; exact (Only.refl _ _).put 0 _
          have u1 : Blk X2 (w.heap.size + 1) iT #[.int .i64 0] := by rw [← hX2]; have := y1.put 0 (.int .i64 0); simpa using this
          have u0 := y0.only o2 (by omega)
          have u2 := y2.only o2 (by omega)
          obtain ⟨X3, hX3⟩ : ∃ W, X2.setCell ⟨w.heap.size + 2, 0, none⟩ (.int .i64 0) = W := ⟨_, rfl⟩
          have o3 : Only (· = w.heap.size + 2) X2 X3 := by rw [← hX3]; exact (Only.refl _ _).put 0 _
          have v2 : Blk X3 (w.heap.size + 2) eT #[.int .i64 0] := by rw [← hX3]; have := u2.put 0 (.int .i64 0); simpa using this
          have v0 := u0.only o3 (by omega)
          have v1 := u1.only o3 (by omega)
          have e1 := y1.cell 0
          have e2 := u2.cell 0
          have g1 := y1.frozen 0
          have g2 := u2.frozen 0
          simp at e1 e2
          have HV := Lib.hid (And.intro v0 (And.intro v1 v2))
          have HKV := Lib.hid (show Kept w X3 from ((HK7.out.only o1 rfl (fun k e => by omega)).only o2 rfl (fun k e => by omega)).only o3 rfl (fun k e => by omega))
          have HC := Lib.hid (zcatch_none w.heap.size (w.heap.size + 1) (w.heap.size + 2) X3)
          have HX1 := Lib.hid (show ((((x5.setCell ⟨w.heap.size, 0, none⟩ (.int .i64 v.tag)).setCell ⟨w.heap.size, 1, none⟩ (.int .i64 v.n)).setCell ⟨w.heap.size, 2, none⟩ (.int .u64 (v.bits : Int))).setCell ⟨w.heap.size, 3, none⟩ (.string v.s)).setCell ⟨w.heap.size, 4, none⟩ (.slice none 0 0) = X1 from hX1)
          have HX2 := Lib.hid hX2
          have HX3 := Lib.hid hX3
          clear hX1 hX2 hX3 o1 o2 o3 y0 y1 y2 u0 u1 u2 v0 v1 v2
          go_wp2_with (first | rw [HX1.out] | rw [HX2.out] | rw [HX3.out])
          refine leaves_cons (f := 102) (args := #[.pointer (some ⟨w.heap.size, 0, none⟩), .pointer (some ⟨w.heap.size + 1, 0, none⟩), .pointer (some ⟨w.heap.size + 2, 0, none⟩)]) (by simp) (by simp [go_sem]) ?_
          refine HC.out.mono ?_
          rintro r9 u' w9 ⟨rfl, rfl, k9⟩
          show Leaves _ _ _ _ _ _ w9
          rw [HRV.out]
          exact ⟨_, do_results (by rfl) _ _ rfl rfl rfl (HV.out.1.kept k9) (HV.out.2.1.kept k9) (HV.out.2.2.kept k9) ⟨_, rfl⟩ ⟨_, rfl⟩, rfl, HKV.out.trans k9⟩
        · have HRV := Lib.hid (show zdoV r o = ⟨V.z, tr, 0⟩ by rw [HRE.out, hv]; rfl)
          have HK7 := Lib.hid (HK6.out.trans k5)
          have HC := Lib.hid (zcatch_trap w.heap.size (w.heap.size + 1) (w.heap.size + 2) tr _ _ _ _ _ _ _ x5 (HB06.out.kept k5) (HB16.out.kept k5) (HB26.out.kept k5) (by omega) (by omega) (by omega))
          clear k5 hv
          go_wp2_with fail
          refine leaves_cons (f := 102) (args := #[.pointer (some ⟨w.heap.size, 0, none⟩), .pointer (some ⟨w.heap.size + 1, 0, none⟩), .pointer (some ⟨w.heap.size + 2, 0, none⟩)]) (by simp) (by simp [go_sem]) ?_
          refine HC.out.mono ?_
          rintro r9 u' w9 ⟨rfl, hu, v0, v1, v2, o9⟩
          show Leaves _ _ _ _ _ (settle u') w9
          rw [hu, HRV.out]
          exact ⟨_, do_results (by rfl) _ _ rfl rfl rfl v0 v1 v2 ⟨_, rfl⟩ ⟨_, rfl⟩, rfl, HK7.out.only o9 rfl (fun k e => by omega)⟩
      · have c0 : (r.err == 0) = false := by simpa using he
        have HRE := Lib.hid (show zdoV r o = Zp.badD r.err from if_neg he)
        clear he
        obtain ⟨⟨c0, c1, c2, c3, c4⟩, d0, d1, d2, d3, d4⟩ := blk5 HB06.out
        obtain ⟨X1, hX1⟩ : ∃ W, put5 V9 w.heap.size (.int .i64 0) (.int .i64 0) (.int .u64 0) (.string ⟨#[]⟩) (.slice none 0 0) = W := ⟨_, rfl⟩
        have o1 : Only (· = w.heap.size) V9 X1 := by rw [← hX1]; exact put5_only _ _ _ _ _ _ _
        have y0 : Blk X1 w.heap.size vT vZ := by rw [← hX1]; exact put5_blk HB06.out _ _ _ _ _
        have y1 := HB16.out.only o1 (by omega)
        have y2 := HB26.out.only o1 (by omega)
        obtain ⟨X2, hX2⟩ : ∃ W, X1.setCell ⟨w.heap.size + 1, 0, none⟩ (.int .i64 0) = W := ⟨_, rfl⟩
        have o2 : Only (· = w.heap.size + 1) X1 X2 := by rw [← hX2]; exact (Only.refl _ _).put 0 _
        have u1 : Blk X2 (w.heap.size + 1) iT #[.int .i64 0] := by rw [← hX2]; have := y1.put 0 (.int .i64 0); simpa using this
        have u0 := y0.only o2 (by omega)
        have u2 := y2.only o2 (by omega)
        obtain ⟨X3, hX3⟩ : ∃ W, X2.setCell ⟨w.heap.size + 2, 0, none⟩ (.int .i64 r.err) = W := ⟨_, rfl⟩
        have o3 : Only (· = w.heap.size + 2) X2 X3 := by rw [← hX3]; exact (Only.refl _ _).put 0 _
        have v2 : Blk X3 (w.heap.size + 2) eT #[.int .i64 r.err] := by rw [← hX3]; have := u2.put 0 (.int .i64 r.err); simpa using this
        have v0 := u0.only o3 (by omega)
        have v1 := u1.only o3 (by omega)
        have e1 := y1.cell 0
        have e2 := u2.cell 0
        have g1 := y1.frozen 0
        have g2 := u2.frozen 0
        simp at e1 e2
        have HV := Lib.hid (And.intro v0 (And.intro v1 v2))
        have HKV := Lib.hid (show Kept w X3 from ((HK6.out.only o1 rfl (fun k e => by omega)).only o2 rfl (fun k e => by omega)).only o3 rfl (fun k e => by omega))
        have HX1 := Lib.hid (show ((((V9.setCell ⟨w.heap.size, 0, none⟩ (.int .i64 0)).setCell ⟨w.heap.size, 1, none⟩ (.int .i64 0)).setCell ⟨w.heap.size, 2, none⟩ (.int .u64 0)).setCell ⟨w.heap.size, 3, none⟩ (.string ⟨#[]⟩)).setCell ⟨w.heap.size, 4, none⟩ (.slice none 0 0) = X1 from hX1)
        have HX2 := Lib.hid hX2
        have HX3 := Lib.hid hX3
        clear hX1 hX2 hX3 o1 o2 o3 y0 y1 y2 u0 u1 u2 v0 v1 v2
        go_wp2_with (first | rw [HX1.out] | rw [HX2.out] | rw [HX3.out])
        rw [HRE.out]
        exact ⟨_, do_results (by rfl) _ _ rfl rfl rfl HV.out.1 HV.out.2.1 HV.out.2.2 ⟨_, rfl⟩ ⟨_, rfl⟩, rfl, HKV.out⟩
  · go_simp
    obtain ⟨x8, hx8⟩ : ∃ W, D.alloc (.cells opZ opT) = W := ⟨_, rfl⟩
    obtain ⟨k8, b8, z8⟩ := vnew hx8
    rw [hx8]
    have kq := k8
    have HG8 := Lib.hid (show D.heap.size ≤ D.heap.size from Nat.le_refl _)
    refine hK.out _ _ ((HB5.out.kept kq).cell 0) (fun hHeld8 => ?_)
    clear hK K
    (try simp only [Act.put, List.getElem_toArray, List.getElem_cons_zero, List.getElem_cons_succ, List.setIfInBounds_toArray, List.set_cons_zero, List.set_cons_succ])
    refine wpAnyT_ready (rs := [3]) (by kernel_rfl) (by simp) ?_
    refine AllReadyT.cons rfl (fun K hK => ?_) AllReadyT.nil
    go_simp
    refine (typesOf_c l a l.length c x8 HNL.out (HVL.out.kept (HK5.out.trans k8)) (HTb.out.kept (HK5.out.trans k8))).mono ?_
    rintro e x3 ⟨a3, c3, rfl, t3, k3⟩
    have kb3 := k3
    have kq3 := kq.trans k3
    clear kq
    have kq := kq3
    refine hK.out _ _ ((HB5.out.kept kq).cell 0) (fun hHeld3 => ?_)
    clear hK K
    (try simp only [Act.put, List.getElem_toArray, List.getElem_cons_zero, List.getElem_cons_succ, List.setIfInBounds_toArray, List.set_cons_zero, List.set_cons_succ])
    clear k3
    refine wpAnyT_ready (rs := [4]) (by kernel_rfl) (by simp) ?_
    refine AllReadyT.cons rfl (fun K hK => ?_) AllReadyT.nil
    go_simp
    have HFF := Lib.hid (HF.out x3 a3 c3 (HK5.out.trans kq) t3)
    refine HFF.out.mono ?_
    rintro e x4 ⟨rfl, k4⟩
    unfold Zp.R.val
    have kq4 := kq.trans k4
    clear kq
    have kq := kq4
    clear kq4
    refine hK.out _ _ ((HB5.out.kept kq).cell 0) (fun hHeld4 => ?_)
    clear hK K
    (try simp only [Act.put, List.getElem_toArray, List.getElem_cons_zero, List.getElem_cons_succ, List.setIfInBounds_toArray, List.set_cons_zero, List.set_cons_succ])
    refine wpAnyT_take (i := 5) (v := ?_) rfl (by kernel_rfl) (by kernel_rfl) (by kernel_rfl) (fun _ _ _ h => zpanic (by decide) h) (Or.inl ⟨by kernel_rfl, ?_⟩) (by assumption) ?_
    rotate_left
    · intro w hSw; (try dsimp only at hSw); go_simp; (try with_reducible rfl)
    (try simp only [Act.put, List.getElem_toArray, List.getElem_cons_zero, List.getElem_cons_succ, List.setIfInBounds_toArray, List.set_cons_zero, List.set_cons_succ])
    refine wpAnyT_take (i := 6) (v := ?_) rfl (by kernel_rfl) (by kernel_rfl) (by kernel_rfl) (fun _ _ _ h => zpanic (by decide) h) (Or.inl ⟨by kernel_rfl, ?_⟩) (by assumption) ?_
    rotate_left
    · intro w hSw; (try dsimp only at hSw); go_simp; (try with_reducible rfl)
    (try simp only [Act.put, List.getElem_toArray, List.getElem_cons_zero, List.getElem_cons_succ, List.setIfInBounds_toArray, List.set_cons_zero, List.set_cons_succ])
    refine wpAnyT_take (i := 7) (v := ?_) rfl (by kernel_rfl) (by kernel_rfl) (by kernel_rfl) (fun _ _ _ h => zpanic (by decide) h) (Or.inl ⟨by kernel_rfl, ?_⟩) (by assumption) ?_
    rotate_left
    · intro w hSw; (try dsimp only at hSw); go_simp; (try with_reducible rfl)
    (try simp only [Act.put, List.getElem_toArray, List.getElem_cons_zero, List.getElem_cons_succ, List.setIfInBounds_toArray, List.set_cons_zero, List.set_cons_succ])
    obtain ⟨z80, z81, z82, g80, g81, g82⟩ := blk3 ((b8.kept kb3).kept k4)
    obtain ⟨V9, hV9⟩ : ∃ W, put3 x4 D.heap.size (.string r.arg) (.string r.res) (.bool r.dyn) = W := ⟨_, rfl⟩
    have o9 : Only (· = D.heap.size) x4 V9 := by rw [← hV9]; exact put3_only _ _ _ _ _
    have kq9 : Kept D V9 := kq.only o9 rfl (fun k e => by rw [e]; exact HG8.out)
    have HV9 := Lib.hid (show ((x4.setCell ⟨D.heap.size, 0, none⟩ (.string r.arg)).setCell ⟨D.heap.size, 1, none⟩ (.string r.res)).setCell ⟨D.heap.size, 2, none⟩ (.bool r.dyn) = V9 from hV9)
    clear hV9 o9 kq
    have kq := kq9
    clear kq9
    refine wpAnyT_ready (rs := [9]) (by kernel_rfl) (by simp) ?_
    refine AllReadyT.cons rfl (fun K hK => ?_) AllReadyT.nil
    go_simp
    rw [HV9.out]
    refine hK.out _ _ ((HB5.out.kept kq).cell 0) (fun hHeld9 => ?_)
    clear hK K
    (try simp only [Act.put, List.getElem_toArray, List.getElem_cons_zero, List.getElem_cons_succ, List.setIfInBounds_toArray, List.set_cons_zero, List.set_cons_succ])
    refine wpAnyT_ready (rs := [10]) (by kernel_rfl) (by simp) ?_
    refine AllReadyT.fin rfl (fun K hK => ?_)
    go_simp
    refine hK.out _ _ ?_
    clear hK K
    (try simp only [Act.put, List.getElem_toArray, List.getElem_cons_zero, List.getElem_cons_succ, List.setIfInBounds_toArray, List.set_cons_zero, List.set_cons_succ])
    refine wpAnyT_done (by kernel_rfl) ?_ _
    have HB06 := Lib.hid (HB0.out.kept kq)
    have HB16 := Lib.hid (HB1.out.kept kq)
    have HB26 := Lib.hid (HB2.out.kept kq)
    have q1 : V9.cell? ⟨w.heap.size + 3, 1, none⟩ = some (fnV G) := (HB5.out.kept kq).cell 1
    have HK6 := Lib.hid (HK5.out.trans kq)
    have HK56 := Lib.hid (show Kept D V9 from kq)
    clear kq
    by_cases he : r.err = 0
    · have c0 : (r.err == 0) = true := by rw [he]; rfl
      have HGO := Lib.hid (HG.out he V9 HK6.out)
      have HRE := Lib.hid (show zdoV r o = o.d from if_pos he)
      clear he
      go_wp2_with fail
      refine HGO.out.mono ?_
      rintro e x5 (⟨v, hv, rfl, k5⟩ | ⟨tr, hv, rfl, k5⟩)
      · have HRV := Lib.hid (show zdoV r o = ⟨v, 0, 0⟩ by rw [HRE.out, hv]; rfl)
        have HB07 := Lib.hid (HB06.out.kept k5)
        have HB17 := Lib.hid (HB16.out.kept k5)
        have HB27 := Lib.hid (HB26.out.kept k5)
        have HK7 := Lib.hid (HK6.out.trans k5)
        clear k5 hv
        obtain ⟨⟨c0, c1, c2, c3, c4⟩, d0, d1, d2, d3, d4⟩ := blk5 HB07.out
        obtain ⟨X1, hX1⟩ : ∃ W, put5 x5 w.heap.size (.int .i64 v.tag) (.int .i64 v.n) (.int .u64 (v.bits : Int)) (.string v.s) (.slice none 0 0) = W := ⟨_, rfl⟩
        have o1 : Only (· = w.heap.size) x5 X1 := by rw [← hX1]; exact put5_only _ _ _ _ _ _ _
        have y0 : Blk X1 w.heap.size vT (five v none 0 0) := by rw [← hX1]; exact put5_blk HB07.out _ _ _ _ _
        have y1 := HB17.out.only o1 (by omega)
        have y2 := HB27.out.only o1 (by omega)
        obtain ⟨X2, hX2⟩ : ∃ W, X1.setCell ⟨w.heap.size + 1, 0, none⟩ (.int .i64 0) = W := ⟨_, rfl⟩
        have o2 : Only (· = w.heap.size + 1) X1 X2 := by rw [← hX2]; exact (Only.refl _ _).put 0 _
        have u1 : Blk X2 (w.heap.size + 1) iT #[.int .i64 0] := by rw [← hX2]; have := y1.put 0 (.int .i64 0); simpa using this
        have u0 := y0.only o2 (by omega)
        have u2 := y2.only o2 (by omega)
        obtain ⟨X3, hX3⟩ : ∃ W, X2.setCell ⟨w.heap.size + 2, 0, none⟩ (.int .i64 0) = W := ⟨_, rfl⟩
        have o3 : Only (· = w.heap.size + 2) X2 X3 := by rw [← hX3]; exact (Only.refl _ _).put 0 _
        have v2 : Blk X3 (w.heap.size + 2) eT #[.int .i64 0] := by rw [← hX3]; have := u2.put 0 (.int .i64 0); simpa using this
        have v0 := u0.only o3 (by omega)
        have v1 := u1.only o3 (by omega)
        have e1 := y1.cell 0
        have e2 := u2.cell 0
        have g1 := y1.frozen 0
        have g2 := u2.frozen 0
        simp at e1 e2
        have HV := Lib.hid (And.intro v0 (And.intro v1 v2))
        have HKV := Lib.hid (show Kept w X3 from ((HK7.out.only o1 rfl (fun k e => by omega)).only o2 rfl (fun k e => by omega)).only o3 rfl (fun k e => by omega))
        have HC := Lib.hid (zcatch_none w.heap.size (w.heap.size + 1) (w.heap.size + 2) X3)
        have HX1 := Lib.hid (show ((((x5.setCell ⟨w.heap.size, 0, none⟩ (.int .i64 v.tag)).setCell ⟨w.heap.size, 1, none⟩ (.int .i64 v.n)).setCell ⟨w.heap.size, 2, none⟩ (.int .u64 (v.bits : Int))).setCell ⟨w.heap.size, 3, none⟩ (.string v.s)).setCell ⟨w.heap.size, 4, none⟩ (.slice none 0 0) = X1 from hX1)
        have HX2 := Lib.hid hX2
        have HX3 := Lib.hid hX3
        clear hX1 hX2 hX3 o1 o2 o3 y0 y1 y2 u0 u1 u2 v0 v1 v2
        go_wp2_with (first | rw [HX1.out] | rw [HX2.out] | rw [HX3.out])
        refine leaves_cons (f := 102) (args := #[.pointer (some ⟨w.heap.size, 0, none⟩), .pointer (some ⟨w.heap.size + 1, 0, none⟩), .pointer (some ⟨w.heap.size + 2, 0, none⟩)]) (by simp) (by simp [go_sem]) ?_
        refine HC.out.mono ?_
        rintro r9 u' w9 ⟨rfl, rfl, k9⟩
        show Leaves _ _ _ _ _ _ w9
        rw [HRV.out]
        exact ⟨_, do_results (by rfl) _ _ rfl rfl rfl (HV.out.1.kept k9) (HV.out.2.1.kept k9) (HV.out.2.2.kept k9) ⟨_, rfl⟩ ⟨_, rfl⟩, rfl, HKV.out.trans k9⟩
      · have HRV := Lib.hid (show zdoV r o = ⟨V.z, tr, 0⟩ by rw [HRE.out, hv]; rfl)
        have HK7 := Lib.hid (HK6.out.trans k5)
        have HC := Lib.hid (zcatch_trap w.heap.size (w.heap.size + 1) (w.heap.size + 2) tr _ _ _ _ _ _ _ x5 (HB06.out.kept k5) (HB16.out.kept k5) (HB26.out.kept k5) (by omega) (by omega) (by omega))
        clear k5 hv
        go_wp2_with fail
        refine leaves_cons (f := 102) (args := #[.pointer (some ⟨w.heap.size, 0, none⟩), .pointer (some ⟨w.heap.size + 1, 0, none⟩), .pointer (some ⟨w.heap.size + 2, 0, none⟩)]) (by simp) (by simp [go_sem]) ?_
        refine HC.out.mono ?_
        rintro r9 u' w9 ⟨rfl, hu, v0, v1, v2, o9⟩
        show Leaves _ _ _ _ _ (settle u') w9
        rw [hu, HRV.out]
        exact ⟨_, do_results (by rfl) _ _ rfl rfl rfl v0 v1 v2 ⟨_, rfl⟩ ⟨_, rfl⟩, rfl, HK7.out.only o9 rfl (fun k e => by omega)⟩
    · have c0 : (r.err == 0) = false := by simpa using he
      have HRE := Lib.hid (show zdoV r o = Zp.badD r.err from if_neg he)
      clear he
      obtain ⟨⟨c0, c1, c2, c3, c4⟩, d0, d1, d2, d3, d4⟩ := blk5 HB06.out
      obtain ⟨X1, hX1⟩ : ∃ W, put5 V9 w.heap.size (.int .i64 0) (.int .i64 0) (.int .u64 0) (.string ⟨#[]⟩) (.slice none 0 0) = W := ⟨_, rfl⟩
      have o1 : Only (· = w.heap.size) V9 X1 := by rw [← hX1]; exact put5_only _ _ _ _ _ _ _
      have y0 : Blk X1 w.heap.size vT vZ := by rw [← hX1]; exact put5_blk HB06.out _ _ _ _ _
      have y1 := HB16.out.only o1 (by omega)
      have y2 := HB26.out.only o1 (by omega)
      obtain ⟨X2, hX2⟩ : ∃ W, X1.setCell ⟨w.heap.size + 1, 0, none⟩ (.int .i64 0) = W := ⟨_, rfl⟩
      have o2 : Only (· = w.heap.size + 1) X1 X2 := by rw [← hX2]; exact (Only.refl _ _).put 0 _
      have u1 : Blk X2 (w.heap.size + 1) iT #[.int .i64 0] := by rw [← hX2]; have := y1.put 0 (.int .i64 0); simpa using this
      have u0 := y0.only o2 (by omega)
      have u2 := y2.only o2 (by omega)
      obtain ⟨X3, hX3⟩ : ∃ W, X2.setCell ⟨w.heap.size + 2, 0, none⟩ (.int .i64 r.err) = W := ⟨_, rfl⟩
      have o3 : Only (· = w.heap.size + 2) X2 X3 := by rw [← hX3]; exact (Only.refl _ _).put 0 _
      have v2 : Blk X3 (w.heap.size + 2) eT #[.int .i64 r.err] := by rw [← hX3]; have := u2.put 0 (.int .i64 r.err); simpa using this
      have v0 := u0.only o3 (by omega)
      have v1 := u1.only o3 (by omega)
      have e1 := y1.cell 0
      have e2 := u2.cell 0
      have g1 := y1.frozen 0
      have g2 := u2.frozen 0
      simp at e1 e2
      have HV := Lib.hid (And.intro v0 (And.intro v1 v2))
      have HKV := Lib.hid (show Kept w X3 from ((HK6.out.only o1 rfl (fun k e => by omega)).only o2 rfl (fun k e => by omega)).only o3 rfl (fun k e => by omega))
      have HX1 := Lib.hid (show ((((V9.setCell ⟨w.heap.size, 0, none⟩ (.int .i64 0)).setCell ⟨w.heap.size, 1, none⟩ (.int .i64 0)).setCell ⟨w.heap.size, 2, none⟩ (.int .u64 0)).setCell ⟨w.heap.size, 3, none⟩ (.string ⟨#[]⟩)).setCell ⟨w.heap.size, 4, none⟩ (.slice none 0 0) = X1 from hX1)
      have HX2 := Lib.hid hX2
      have HX3 := Lib.hid hX3
      clear hX1 hX2 hX3 o1 o2 o3 y0 y1 y2 u0 u1 u2 v0 v1 v2
      go_wp2_with (first | rw [HX1.out] | rw [HX2.out] | rw [HX3.out])
      rw [HRE.out]
      exact ⟨_, do_results (by rfl) _ _ rfl rfl rfl HV.out.1 HV.out.2.1 HV.out.2.2 ⟨_, rfl⟩ ⟨_, rfl⟩, rfl, HKV.out⟩

end Go.Proofs.YtcaailiijmjdlaaGreatDoor
