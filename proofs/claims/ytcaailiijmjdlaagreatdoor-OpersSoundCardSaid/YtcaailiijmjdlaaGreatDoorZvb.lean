/- What operations make of values: Same, truthValue, intValue, realValue, calculate, and the methods of operands. -/
import Derived.Test.YtcaailiijmjdlaaGreatDoorZva
import Derived.Test.YtcaailiijmjdlaaGreatDoorIds
set_option linter.unusedSimpArgs false
set_option linter.unusedVariables false
set_option maxRecDepth 100000
namespace Go.Proofs.YtcaailiijmjdlaaGreatDoor.Zp
open Flo

/-- What an operation comes to: a value, or a trap. -/
inductive Out where
  | val (v : V)
  | trap (t : Int)
def rdo (op : ByteArray) (a b : Nat) : Nat := match opOf op.toList with
  | some o => doN o a b
  | none => 0
def calcO (op : ByteArray) (a b : V) : Out :=
  if a.tag = 1 then (if doE op.data.toList b.n = 3 then .trap 2 else .val (vI (doV op.data.toList a.n b.n))) else if a.tag = 2 then .val (vR (rdo op a.bits b.bits)) else
  if 1000 < (a.s.size : Int) + b.s.size then .trap 6 else .val (vS (a.s ++ b.s))
end Go.Proofs.YtcaailiijmjdlaaGreatDoor.Zp
namespace Go.Proofs.YtcaailiijmjdlaaGreatDoor
open Go.ChangeShapes Go.WideShapes Go.ChangeAt Go.RowKit Flo
attribute [local go_sem] Oper.semAt_some
open Zp (V e0 vI vR vB vS ordL ordS numT Out rdo calcO)

abbrev trV (t : Int) : List PanicEntry := [{ v := .iface 114 (.int .i64 t), recovered := false }]
def OutPost (o : Out) (w : World) (e : Ending) (w' : World) : Prop := (∃ v, o = .val v ∧ e = .returned v.p ∧ Kept w w') ∨ (∃ t, o = .trap t ∧ e = .panicked (trV t) ∧ Kept w w')
theorem vnew {w W : World} {t : TypeId} {cs : Array Value} (h : w.alloc (.cells cs t) = W) : Kept w W ∧ Blk W w.heap.size t cs ∧ W.heap.size = w.heap.size + 1 := by
  rw [← h]
  exact ⟨(Kept.refl _).alloc _, Blk.new _ _ _, by simp⟩
theorem v_endO {fn : Func} {q : Tmp} {a : Act} {w W : World} {r : V} {o : Out} {a0 a1 a2 a3 a4 : Value} (ho : o = .val r) (hf : fn.results = #[.cell q vT]) (hd : a.defers = []) (hp : a.tmps.getD q undef = .pointer (some ⟨w.heap.size, 0, none⟩))
    (hb : Blk W w.heap.size vT #[a0, a1, a2, a3, a4]) (hk : Kept w W) : bodyPost Tryz.prog fn (OutPost o w) .ret a (put5 W w.heap.size (.int .i64 r.tag) (.int .i64 r.n) (.int .u64 (r.bits : Int)) (.string r.s) (.slice none 0 0)) :=
  bodyPost_ret (v_results hf _ _ hp (put5_blk hb _ _ _ _ _)) hd (.inl ⟨r, ho, rfl, hk.only (put5_only _ _ _ _ _ _ _) rfl (fun k e => by omega)⟩)

set_option maxHeartbeats 1000000 in
theorem same_v (a b : V) (pa pb : Option Addr) (la ca lb cb : Nat) (w : World) :
    Calls Tryz.prog 25 #[a.v (.slice pa la ca), b.v (.slice pb lb cb)] w fun e w' => e = .returned (.bool (ordS a b)) ∧ Kept w w' := by
  obtain ⟨W1, hW1⟩ : ∃ W, w.alloc (.cells #[.int .i64 a.tag, .int .i64 a.n, .int .u64 (a.bits : Int), .string a.s, .slice pa la ca] vT) = W := ⟨_, rfl⟩
  obtain ⟨W2, hW2⟩ : ∃ W, W1.alloc (.cells #[.int .i64 b.tag, .int .i64 b.n, .int .u64 (b.bits : Int), .string b.s, .slice pb lb cb] vT) = W := ⟨_, rfl⟩
  obtain ⟨b1, b2, k2, z1⟩ := two_box hW1 hW2
  have HK := Lib.hid k2
  have HW1 := Lib.hid hW1
  have HW2 := Lib.hid hW2
  have HO := Lib.hid (order_c a b pa pb la ca lb cb W2)
  obtain ⟨⟨x0, x1, x2, x3, x4⟩, _⟩ := blk5 b1
  obtain ⟨⟨y0, y1, y2, y3, y4⟩, _⟩ := blk5 b2
  clear hW1 hW2 b1 b2 k2
  go_enter Tryz.func25, Tryz.ntmps25
  go_wp2_with (first | rw [HW1.out] | rw [z1] | rw [HW2.out])
  refine HO.out.mono ?_
  rintro e w3 ⟨rfl, k3⟩
  have HK3 := Lib.hid (HK.out.trans k3)
  clear k3
  go_wp2_with fail
  go_ret
  exact ⟨rfl, HK3.out⟩

set_option maxHeartbeats 1000000 in
theorem vint_c (n : Int) (w : World) : Calls Tryz.prog 131 #[.int .i64 n] w fun e w' => e = .returned (vI n).p ∧ Kept w w' := by
  obtain ⟨W0, hW0⟩ : ∃ W, w.alloc (.cells vZ vT) = W := ⟨_, rfl⟩
  obtain ⟨k0, b0, _⟩ := vnew hW0
  obtain ⟨⟨x0, x1, x2, x3, x4⟩, f0, f1, f2, f3, f4⟩ := blk5 b0
  have HW0 := Lib.hid hW0
  have HB0 := Lib.hid b0
  have HK0 := Lib.hid k0
  clear hW0 b0 k0
  go_enter Tryz.func131, Tryz.ntmps131
  go_wp2_with (rw [HW0.out])
  exact v_end (r := vI n) (by rfl) rfl rfl HB0.out HK0.out
set_option maxHeartbeats 1000000 in
theorem vreal_c (n : Nat) (w : World) : Calls Tryz.prog 133 #[.int .u64 (n : Int)] w fun e w' => e = .returned (vR n).p ∧ Kept w w' := by
  obtain ⟨W0, hW0⟩ : ∃ W, w.alloc (.cells vZ vT) = W := ⟨_, rfl⟩
  obtain ⟨k0, b0, _⟩ := vnew hW0
  obtain ⟨⟨x0, x1, x2, x3, x4⟩, f0, f1, f2, f3, f4⟩ := blk5 b0
  have HW0 := Lib.hid hW0
  have HB0 := Lib.hid b0
  have HK0 := Lib.hid k0
  clear hW0 b0 k0
  go_enter Tryz.func133, Tryz.ntmps133
  go_wp2_with (rw [HW0.out])
  exact v_end (r := vR n) (by rfl) rfl rfl HB0.out HK0.out
set_option maxHeartbeats 1000000 in
theorem vtruth_c (t : Bool) (w : World) : Calls Tryz.prog 130 #[.bool t] w fun e w' => e = .returned (vB t).p ∧ Kept w w' := by
  obtain ⟨W0, hW0⟩ : ∃ W, w.alloc (.cells vZ vT) = W := ⟨_, rfl⟩
  obtain ⟨k0, b0, z0⟩ := vnew hW0
  obtain ⟨W1, hW1⟩ : ∃ W, W0.alloc (.cells #[.int .i64 3, .int .i64 0, .int .u64 0, .string ⟨#[]⟩, .slice none 0 0] vT) = W := ⟨_, rfl⟩
  obtain ⟨k1, b1, _⟩ := vnew hW1
  have HW0 := Lib.hid hW0
  have HW1 := Lib.hid hW1
  have HB0 := Lib.hid (b0.kept k1)
  have HB1 := Lib.hid b1
  have HK1 := Lib.hid (k0.trans k1)
  have HN := Lib.hid (show w.heap.size < W0.heap.size from b0.lt)
  obtain ⟨⟨x0, x1, x2, x3, x4⟩, f0, f1, f2, f3, f4⟩ := blk5 HB0.out
  obtain ⟨⟨y0, y1, y2, y3, y4⟩, g0, g1, g2, g3, g4⟩ := blk5 b1
  clear hW0 hW1 b0 b1 k0 k1 z0
  cases t with
  | false =>
    go_enter Tryz.func130, Tryz.ntmps130
    go_wp2_with (first | rw [HW0.out] | rw [HW1.out])
    exact v_end (r := vB false) (by rfl) rfl rfl HB0.out HK1.out
  | true =>
    obtain ⟨W2, hW2⟩ : ∃ W, W1.setCell ⟨W0.heap.size, 1, none⟩ (.int .i64 1) = W := ⟨_, rfl⟩
    have o2 : Only (· = W0.heap.size) W1 W2 := by rw [← hW2]; exact (Only.refl _ _).put 1 _
    have b2 : Blk W2 W0.heap.size vT #[.int .i64 3, .int .i64 1, .int .u64 0, .string ⟨#[]⟩, .slice none 0 0] := by
      rw [← hW2]
      have := HB1.out.put 1 (.int .i64 1)
      simpa using this
    have HB2 := Lib.hid (HB0.out.only o2 (by have := HN.out; omega))
    have HK2 := Lib.hid (show Kept w W2 from HK1.out.only o2 rfl (fun k e => by have := HN.out; omega))
    have HW2 := Lib.hid hW2
    obtain ⟨⟨p0, p1, p2, p3, p4⟩, _⟩ := blk5 b2
    obtain ⟨⟨q0, q1, q2, q3, q4⟩, r0, r1, r2, r3, r4⟩ := blk5 HB2.out
    clear hW2 o2 b2
    go_enter Tryz.func130, Tryz.ntmps130
    go_wp2_with (first | rw [HW0.out] | rw [HW1.out] | rw [HW2.out])
    exact v_end (r := vB true) (by rfl) rfl rfl HB2.out HK2.out

theorem vjoin_c (op x y : ByteArray) (hx : x.size ≤ 1000000) (hy : y.size ≤ 1000000) (w : World) : Calls Tryz.prog 136 #[.string op, .string x, .string y] w fun e w' => e = .returned (if 1000 < (x.size : Int) + y.size then .tuple #[.string ⟨#[]⟩, .int .i64 4] else .tuple #[.string (x ++ y), .int .i64 0]) ∧ w = w' := by
  have hxI : (x.size : Int) ≤ 1000000 := by omega
  have hyI : (y.size : Int) ≤ 1000000 := by omega
  by_cases h : 1000 < (x.size : Int) + y.size
  · rw [if_pos h]
    go_enter Tryz.func136, Tryz.ntmps136
    go_wp2_with fail
    go_ret2
    exact ⟨rfl, rfl⟩
  · rw [if_neg h]
    go_enter Tryz.func136, Tryz.ntmps136
    go_wp2_with fail
    go_ret2
    exact ⟨rfl, rfl⟩

/-- What a calculation ends in. -/
def CalPost (o : Option Value) (t : Int) (w : World) (e : Ending) (w' : World) : Prop := (∃ v, o = some v ∧ e = .returned v ∧ Kept w w') ∨ (o = none ∧ e = .panicked (trV t) ∧ Kept w w')
set_option maxHeartbeats 2000000 in
theorem calI_c (op : ByteArray) (x y : Int) (hs : op.size ≤ maxLen) (w : World) : Calls Tryz.prog 132 #[.string op, .int .i64 x, .int .i64 y, .func (.func 40) #[] #[]] w
    (CalPost (if doE op.data.toList y = 3 then none else some (.int .i64 (doV op.data.toList x y))) 2 w) := by
  have heg : ∀ args w, (callFunc 40 args).run Tryz.prog w = .ok (.enter 40 args) w := fun _ _ => rfl
  have HD := Lib.hid (doR_c op x y hs w)
  have he : doE op.data.toList y = 0 ∨ doE op.data.toList y = 2 ∨ doE op.data.toList y = 3 := by
    unfold doE
    repeat' split
    all_goals simp
  generalize hv : doV op.data.toList x y = v at *
  generalize hE : doE op.data.toList y = E at *
  clear hv hE hs
  rcases he with rfl | rfl | rfl
  · go_enter Tryz.func132, Tryz.ntmps132
    go_wp2_with fail
    refine HD.out.mono ?_
    rintro e w1 ⟨rfl, k1⟩
    have HK := Lib.hid k1
    clear k1
    go_wp2_with fail
    go_ret
    exact .inl ⟨_, rfl, rfl, HK.out⟩
  · go_enter Tryz.func132, Tryz.ntmps132
    go_wp2_with fail
    refine HD.out.mono ?_
    rintro e w1 ⟨rfl, k1⟩
    have HK := Lib.hid k1
    clear k1
    go_wp2_with fail
    go_ret
    exact .inl ⟨_, rfl, rfl, HK.out⟩
  · go_enter Tryz.func132, Tryz.ntmps132
    go_wp2_with fail
    refine HD.out.mono ?_
    rintro e w1 ⟨rfl, k1⟩
    have HK := Lib.hid k1
    clear k1
    go_wp2_with fail
    exact ⟨rfl, .inr ⟨rfl, rfl, HK.out⟩⟩
theorem rdoR_c (op : ByteArray) (x y : Nat) (w : World) : Calls Tryz.prog 39 #[.string op, .int .u64 (x : Int), .int .u64 (y : Int)] w fun e w' => ∃ er : Int, (er = 0 ∨ er = 2) ∧ e = .returned (.tuple #[.int .u64 (rdo op x y : Int), .int .i64 er]) ∧ Kept w w' := by
  unfold rdo
  cases h : opOf op.toList with
  | some o => exact (doR_op op x y w o h).mono fun e w' ⟨h1, h2⟩ => ⟨0, .inl rfl, h1, Kept.of_grown h2⟩
  | none => exact (doR_no op x y w h).mono fun e w' ⟨h1, h2⟩ => ⟨2, .inr rfl, h1, Kept.of_grown h2⟩
set_option maxHeartbeats 2000000 in
theorem calU_c (op : ByteArray) (x y : Nat) (w : World) : Calls Tryz.prog 134 #[.string op, .int .u64 (x : Int), .int .u64 (y : Int), .func (.func 39) #[] #[]] w
    fun e w' => e = .returned (.int .u64 (rdo op x y : Int)) ∧ Kept w w' := by
  have heg : ∀ args w, (callFunc 39 args).run Tryz.prog w = .ok (.enter 39 args) w := fun _ _ => rfl
  have HD := Lib.hid (rdoR_c op x y w)
  generalize rdo op x y = v at *
  go_enter Tryz.func134, Tryz.ntmps134
  go_wp2_with fail
  refine HD.out.mono ?_
  rintro e w1 ⟨er, rfl | rfl, rfl, k1⟩
  all_goals
    have HK := Lib.hid k1
    clear k1
    go_wp2_with fail
    go_ret
    exact ⟨rfl, HK.out⟩
set_option maxHeartbeats 2000000 in
theorem calT_c (op x y : ByteArray) (hx : x.size ≤ 1000000) (hy : y.size ≤ 1000000) (w : World) : Calls Tryz.prog 135 #[.string op, .string x, .string y, .func (.func 136) #[] #[]] w
    (CalPost (if 1000 < (x.size : Int) + y.size then none else some (.string (x ++ y))) 6 w) := by
  have heg : ∀ args w, (callFunc 136 args).run Tryz.prog w = .ok (.enter 136 args) w := fun _ _ => rfl
  have HD := Lib.hid (vjoin_c op x y hx hy w)
  clear hx hy
  by_cases h : 1000 < (x.size : Int) + y.size
  · rw [if_pos h] at HD
    rw [if_pos h]
    clear h
    go_enter Tryz.func135, Tryz.ntmps135
    go_wp2_with fail
    refine HD.out.mono ?_
    rintro e w1 ⟨rfl, rfl⟩
    go_wp2_with fail
    exact ⟨rfl, .inr ⟨rfl, rfl, Kept.refl _⟩⟩
  · rw [if_neg h] at HD
    rw [if_neg h]
    clear h
    go_enter Tryz.func135, Tryz.ntmps135
    go_wp2_with fail
    refine HD.out.mono ?_
    rintro e w1 ⟨rfl, rfl⟩
    go_wp2_with fail
    go_ret
    exact .inl ⟨_, rfl, rfl, Kept.refl _⟩

end Go.Proofs.YtcaailiijmjdlaaGreatDoor
