/- Values: in plain words and in memory; truthValue, intValue, realValue; compare, order, Same; what no chain makes of SameLayers and SameValue. -/
import Derived.Test.YtcaailiijmjdlaaGreatDoorZto
import Derived.Test.YtcaailiijmjdlaaGreatDoorToi
import Derived.Test.YtcaailiijmjdlaaGreatDoorHlt
import Derived.Test.YtcaailiijmjdlaaGreatDoorZtp
set_option linter.unusedSimpArgs false
set_option linter.unusedVariables false
set_option maxRecDepth 100000
namespace Go.Proofs.YtcaailiijmjdlaaGreatDoor.Zp
open Flo

/-- A value, but for its chain. -/
structure V where
  tag : Int
  n : Int
  bits : Nat
  s : ByteArray
abbrev V.z : V := ⟨0, 0, 0, e0⟩
abbrev vI (n : Int) : V := ⟨1, n, 0, e0⟩
abbrev vR (b : Nat) : V := ⟨2, 0, b, e0⟩
def b2i (b : Bool) : Int := if b then 1 else 0
abbrev vB (b : Bool) : V := ⟨3, b2i b, 0, e0⟩
abbrev vS (s : ByteArray) : V := ⟨4, 0, 0, s⟩
/-- Numbers of 64 bits. -/
structure V.ok (x : V) : Prop where
  n : -9223372036854775808 ≤ x.n ∧ x.n ≤ 9223372036854775807
  bits : x.bits < 18446744073709551616
  s : x.s.size ≤ 9223372036854775807
def V.c (x : V) (ch : Value) : List Value := [.int .i64 x.tag, .int .i64 x.n, .int .u64 (x.bits : Int), .string x.s, ch]
abbrev V.v (x : V) (ch : Value) : Value := .agg #[.int .i64 x.tag, .int .i64 x.n, .int .u64 (x.bits : Int), .string x.s, ch]
abbrev V.p (x : V) : Value := x.v (.slice none 0 0)

def numT (t : Int) : Bool := decide (t = 1 ∨ t = 3 ∨ t = 7)
/-- Is a less than b, and are they the same? -/
def ordL (a b : V) : Bool := if a.tag = b.tag then (if numT a.tag = true then decide (a.n < b.n) else if a.tag = 2 then less a.bits b.bits else if a.tag = 4 then Op.bytesLess a.s.toList b.s.toList else false) else false
def ordS (a b : V) : Bool := if a.tag = b.tag then (if numT a.tag = true then decide (a.n = b.n) else if a.tag = 2 then equal a.bits b.bits else if a.tag = 4 then decide (a.s = b.s) else decide (a.tag = 5 ∨ a.tag = 6)) else false
end Go.Proofs.YtcaailiijmjdlaaGreatDoor.Zp
namespace Go.Proofs.YtcaailiijmjdlaaGreatDoor
open Go.ChangeShapes Go.WideShapes Go.ChangeAt Go.RowKit Flo
attribute [local go_sem] Oper.semAt_some
open Zp (V e0 vI vR vB vS ordL ordS numT)

abbrev vT : TypeId := 32
abbrev vZ : Array Value := #[.int .i64 0, .int .i64 0, .int .u64 0, .string ⟨#[]⟩, .slice none 0 0]

theorem v_results {fn : Func} {q : Tmp} (h : fn.results = #[.cell q vT]) (tmps : Array Value) (W : World) {g : Nat} {x y z u v : Value}
    (hp : tmps.getD q undef = .pointer (some ⟨g, 0, none⟩)) (hg : Blk W g vT #[x, y, z, u, v]) : (results fn tmps).run Tryz.prog W = .ok (.agg #[x, y, z, u, v]) W :=
  results_cell_row (P := Tryz.prog) h tmps W g vT #[x, y, z, u, v] (0, 0) _ hp hg Tryz.underlying32 (by rfl) (by kernel_rfl)
theorem v_results2 {fn : Func} {q u : Tmp} (h : fn.results = #[.cell q vT, .tmp u]) (tmps : Array Value) (W : World) {g : Nat} {x0 x1 x2 x3 x4 v : Value}
    (hp : tmps.getD q undef = .pointer (some ⟨g, 0, none⟩)) (hv : tmps.getD u undef = v) (hg : Blk W g vT #[x0, x1, x2, x3, x4]) : (results fn tmps).run Tryz.prog W = .ok (.tuple #[.agg #[x0, x1, x2, x3, x4], v]) W := by
  rw [results_cell_tmp h]
  have hp' : tmps[q]?.getD undef = .pointer (some ⟨g, 0, none⟩) := by simpa using hp
  simp only [Array.getD_eq_getD_getElem?] at hv ⊢
  rw [hv]
  simp [asAddr, hp', Result.andThen, run_loadVar_row W g vT vT #[x0, x1, x2, x3, x4] (0, 0) _ hg Tryz.underlying32 (by rfl) (by kernel_rfl)]
theorem v_results3 {fn : Func} {q u u' : Tmp} (h : fn.results = #[.cell q vT, .tmp u, .tmp u']) (tmps : Array Value) (W : World) {g : Nat} {x0 x1 x2 x3 x4 v v' : Value}
    (hp : tmps.getD q undef = .pointer (some ⟨g, 0, none⟩)) (hv : tmps.getD u undef = v) (hv' : tmps.getD u' undef = v') (hg : Blk W g vT #[x0, x1, x2, x3, x4]) : (results fn tmps).run Tryz.prog W = .ok (.tuple #[.agg #[x0, x1, x2, x3, x4], v, v']) W := by
  have hp' : tmps[q]?.getD undef = .pointer (some ⟨g, 0, none⟩) := by simpa using hp
  simp only [Array.getD_eq_getD_getElem?] at hv hv'
  simp only [results, h]
  simp [Sem.run_bind, Result.andThen, asAddr, hp', hv, hv', run_loadVar_row W g vT vT #[x0, x1, x2, x3, x4] (0, 0) _ hg Tryz.underlying32 (by rfl) (by kernel_rfl)]
def put5 (W : World) (g : Nat) (x0 x1 x2 x3 x4 : Value) : World := ((((W.setCell ⟨g, 0, none⟩ x0).setCell ⟨g, 1, none⟩ x1).setCell ⟨g, 2, none⟩ x2).setCell ⟨g, 3, none⟩ x3).setCell ⟨g, 4, none⟩ x4
theorem put5_blk {W : World} {g : Nat} {t : TypeId} {a b c d e : Value} (h : Blk W g t #[a, b, c, d, e]) (x0 x1 x2 x3 x4 : Value) : Blk (put5 W g x0 x1 x2 x3 x4) g t #[x0, x1, x2, x3, x4] := by
  have := ((((h.put 0 x0).put 1 x1).put 2 x2).put 3 x3).put 4 x4
  simpa [put5] using this
theorem put5_only (W : World) (g : Nat) (x0 x1 x2 x3 x4 : Value) : Only (· = g) W (put5 W g x0 x1 x2 x3 x4) := (((((Only.refl _ W).put 0 _).put 1 _).put 2 _).put 3 _).put 4 _
theorem blk5 {W : World} {g : Nat} {t : TypeId} {x0 x1 x2 x3 x4 : Value} (h : Blk W g t #[x0, x1, x2, x3, x4]) : (W.cell? ⟨g, 0, none⟩ = some x0 ∧ W.cell? ⟨g, 1, none⟩ = some x1 ∧ W.cell? ⟨g, 2, none⟩ = some x2 ∧ W.cell? ⟨g, 3, none⟩ = some x3 ∧ W.cell? ⟨g, 4, none⟩ = some x4) ∧
    W.frozen? ⟨g, 0, none⟩ = false ∧ W.frozen? ⟨g, 1, none⟩ = false ∧ W.frozen? ⟨g, 2, none⟩ = false ∧ W.frozen? ⟨g, 3, none⟩ = false ∧ W.frozen? ⟨g, 4, none⟩ = false :=
  ⟨⟨h.cell 0, h.cell 1, h.cell 2, h.cell 3, h.cell 4⟩, h.frozen 0, h.frozen 1, h.frozen 2, h.frozen 3, h.frozen 4⟩
/-- The end of a function whose value lies in a cell of its own. -/
theorem v_end {fn : Func} {q : Tmp} {a : Act} {w W : World} {r : V} {a0 a1 a2 a3 a4 : Value} (hf : fn.results = #[.cell q vT]) (hd : a.defers = []) (hp : a.tmps.getD q undef = .pointer (some ⟨w.heap.size, 0, none⟩))
    (hb : Blk W w.heap.size vT #[a0, a1, a2, a3, a4]) (hk : Kept w W) : bodyPost Tryz.prog fn (fun e w' => e = .returned r.p ∧ Kept w w') .ret a (put5 W w.heap.size (.int .i64 r.tag) (.int .i64 r.n) (.int .u64 (r.bits : Int)) (.string r.s) (.slice none 0 0)) :=
  bodyPost_ret (v_results hf _ _ hp (put5_blk hb _ _ _ _ _)) hd ⟨rfl, hk.only (put5_only _ _ _ _ _ _ _) rfl (fun k e => by omega)⟩

theorem cmpI_c (x y : Int) (w : World) : Calls Tryz.prog 107 #[.int .i64 x, .int .i64 y] w fun e w' => e = .returned (.tuple #[.bool (decide (x < y)), .bool (decide (x = y))]) ∧ w = w' := by
  have h : (x == y) = decide (x = y) := by cases hd : decide (x = y) <;> simp_all
  go_enter Tryz.func107, Tryz.ntmps107
  go_wp2_with fail
  go_ret2
  exact ⟨rfl, rfl⟩
theorem cmpF_c (x y : Nat) (w : World) : Calls Tryz.prog 108 #[.float .f64 x, .float .f64 y] w fun e w' => e = .returned (.tuple #[.bool (less x y), .bool (equal x y)]) ∧ w = w' := by
  go_enter Tryz.func108, Tryz.ntmps108
  go_wp2_with fail
  go_ret2
  refine ⟨?_, rfl⟩
  show Ending.returned (.tuple #[.bool (Ieee.double.order x y == some .lt), .bool (Ieee.double.order x y == some .eq)]) = _
  rw [order_less, order_equal]
theorem cmpT_c (x y : ByteArray) (w : World) : Calls Tryz.prog 109 #[.string x, .string y] w fun e w' => e = .returned (.tuple #[.bool (Op.bytesLess x.toList y.toList), .bool (decide (x = y))]) ∧ w = w' := by
  have h := teqB x y
  go_enter Tryz.func109, Tryz.ntmps109
  go_wp2_with fail
  go_ret2
  exact ⟨rfl, rfl⟩

/-- Two values in boxes of their own. -/
theorem two_box {w W1 W2 : World} {a b : V} {pa pb : Option Addr} {la ca lb cb : Nat} (h1 : w.alloc (.cells (a.c (.slice pa la ca)).toArray vT) = W1) (h2 : W1.alloc (.cells (b.c (.slice pb lb cb)).toArray vT) = W2) :
    Blk W2 w.heap.size vT (a.c (.slice pa la ca)).toArray ∧ Blk W2 (w.heap.size + 1) vT (b.c (.slice pb lb cb)).toArray ∧ Kept w W2 ∧ W1.heap.size = w.heap.size + 1 := by
  have z1 : W1.heap.size = w.heap.size + 1 := by rw [← h1]; simp
  have b1 : Blk W1 w.heap.size vT (a.c (.slice pa la ca)).toArray := by rw [← h1]; exact Blk.new _ _ _
  have k1 : Kept w W1 := by rw [← h1]; exact (Kept.refl _).alloc _
  refine ⟨?_, ?_, ?_, z1⟩
  · rw [← h2]; exact b1.alloc _
  · rw [← h2, ← z1]; exact Blk.new _ _ _
  · rw [← h2]; exact k1.alloc _

set_option maxHeartbeats 4000000 in
theorem order_c (a b : V) (pa pb : Option Addr) (la ca lb cb : Nat) (w : World) :
    Calls Tryz.prog 65 #[a.v (.slice pa la ca), b.v (.slice pb lb cb)] w fun e w' => e = .returned (.tuple #[.bool (ordL a b), .bool (ordS a b)]) ∧ Kept w w' := by
  obtain ⟨ta, na, ba, sa⟩ := a
  obtain ⟨tb, nb, bb, sb⟩ := b
  obtain ⟨W1, hW1⟩ : ∃ W, w.alloc (.cells #[.int .i64 ta, .int .i64 na, .int .u64 (ba : Int), .string sa, .slice pa la ca] vT) = W := ⟨_, rfl⟩
  obtain ⟨W2, hW2⟩ : ∃ W, W1.alloc (.cells #[.int .i64 tb, .int .i64 nb, .int .u64 (bb : Int), .string sb, .slice pb lb cb] vT) = W := ⟨_, rfl⟩
  obtain ⟨b1, b2, k2, z1⟩ := two_box (a := ⟨ta, na, ba, sa⟩) (b := ⟨tb, nb, bb, sb⟩) hW1 hW2
  have HK := Lib.hid k2
  have HW1 := Lib.hid hW1
  have HW2 := Lib.hid hW2
  obtain ⟨⟨x0, x1, x2, x3, _⟩, _⟩ := blk5 b1
  obtain ⟨⟨y0, y1, y2, y3, _⟩, _⟩ := blk5 b2
  clear hW1 hW2 b1 b2 k2
  by_cases ht : ta = tb
  · subst ht
    by_cases hn : ta = 1 ∨ ta = 3 ∨ ta = 7
    · have HE := Lib.hid (show ordL ⟨ta, na, ba, sa⟩ ⟨ta, nb, bb, sb⟩ = decide (na < nb) ∧ ordS ⟨ta, na, ba, sa⟩ ⟨ta, nb, bb, sb⟩ = decide (na = nb) by
        unfold ordL ordS; rw [if_pos rfl, if_pos rfl, if_pos (by unfold numT; exact decide_eq_true hn), if_pos (by unfold numT; exact decide_eq_true hn)]; exact ⟨rfl, rfl⟩)
      rcases hn with rfl | rfl | rfl
      all_goals
        go_enter Tryz.func65, Tryz.ntmps65
        go_wp2_with (first | rw [HW1.out] | rw [z1] | rw [HW2.out])
        refine (cmpI_c na nb W2).mono ?_
        rintro e w3 ⟨rfl, rfl⟩
        go_wp2_with fail
        go_ret2
        rw [HE.out.1, HE.out.2]
        exact ⟨rfl, HK.out⟩
    · by_cases h2 : ta = 2
      · subst h2
        have HE := Lib.hid (show ordL ⟨2, na, ba, sa⟩ ⟨2, nb, bb, sb⟩ = less ba bb ∧ ordS ⟨2, na, ba, sa⟩ ⟨2, nb, bb, sb⟩ = equal ba bb from ⟨rfl, rfl⟩)
        have hk := k_from
        clear hn
        go_enter Tryz.func65, Tryz.ntmps65
        go_wp2_with (first | rw [HW1.out] | rw [z1] | rw [HW2.out])
        refine wp_region_held_drew (S := (fun W => W.cell? ⟨w.heap.size, 2, none⟩ = some (.int .u64 (ba : Int)) ∧ W.cell? ⟨w.heap.size + 1, 2, none⟩ = some (.int .u64 (bb : Int)))) (by kernel_rfl) ⟨x2, y2⟩ (fun hHeld0 => ?_)
        refine wpAnyH_take (i := 0) (v := ?_) rfl (by kernel_rfl) (by kernel_rfl) (by kernel_rfl) (fun _ _ _ h => h) (Or.inl ⟨by kernel_rfl, ?_⟩) (by assumption) ?_
        rotate_left
        · intro w hSw; (try dsimp only at hSw); go_simp; (try with_reducible rfl)
        (try simp only [Act.put, List.getElem_toArray, List.getElem_cons_zero, List.getElem_cons_succ, List.setIfInBounds_toArray, List.set_cons_zero, List.set_cons_succ])
        refine wpAnyH_take (i := 1) (v := ?_) rfl (by kernel_rfl) (by kernel_rfl) (by kernel_rfl) (fun _ _ _ h => h) (Or.inl ⟨by kernel_rfl, ?_⟩) (by assumption) ?_
        rotate_left
        · intro w hSw; (try dsimp only at hSw); go_simp; (try with_reducible rfl)
        (try simp only [Act.put, List.getElem_toArray, List.getElem_cons_zero, List.getElem_cons_succ, List.setIfInBounds_toArray, List.set_cons_zero, List.set_cons_succ])
        refine wpAnyH_take (i := 2) (v := ?_) rfl (by kernel_rfl) (by kernel_rfl) (by kernel_rfl) (fun _ _ _ h => h) (Or.inl ⟨by kernel_rfl, ?_⟩) (by assumption) ?_
        rotate_left
        · intro w hSw; (try dsimp only at hSw); go_simp; (try with_reducible rfl)
        (try simp only [Act.put, List.getElem_toArray, List.getElem_cons_zero, List.getElem_cons_succ, List.setIfInBounds_toArray, List.set_cons_zero, List.set_cons_succ])
        refine wpAnyH_take (i := 3) (v := ?_) rfl (by kernel_rfl) (by kernel_rfl) (by kernel_rfl) (fun _ _ _ h => h) (Or.inl ⟨by kernel_rfl, ?_⟩) (by assumption) ?_
        rotate_left
        · intro w hSw; (try dsimp only at hSw); go_simp; (try with_reducible rfl)
        (try simp only [Act.put, List.getElem_toArray, List.getElem_cons_zero, List.getElem_cons_succ, List.setIfInBounds_toArray, List.set_cons_zero, List.set_cons_succ])
        refine wpAnyH_take (i := 4) (v := ?_) rfl (by kernel_rfl) (by kernel_rfl) (by kernel_rfl) (fun _ _ _ h => h) (Or.inl ⟨by kernel_rfl, ?_⟩) (by assumption) ?_
        rotate_left
        · intro w hSw; (try dsimp only at hSw); go_simp; (try with_reducible rfl)
        (try simp only [Act.put, List.getElem_toArray, List.getElem_cons_zero, List.getElem_cons_succ, List.setIfInBounds_toArray, List.set_cons_zero, List.set_cons_succ])
        refine wpAnyH_take (i := 5) (v := ?_) rfl (by kernel_rfl) (by kernel_rfl) (by kernel_rfl) (fun _ _ _ h => h) (Or.inl ⟨by kernel_rfl, ?_⟩) (by assumption) ?_
        rotate_left
        · intro w hSw; (try dsimp only at hSw); go_simp; (try with_reducible rfl)
        (try simp only [Act.put, List.getElem_toArray, List.getElem_cons_zero, List.getElem_cons_succ, List.setIfInBounds_toArray, List.set_cons_zero, List.set_cons_succ])
        refine wpAnyH_ready (rs := [6]) (by kernel_rfl) (by simp) ?_
        refine AllReadyH.cons rfl (fun K hK => ?_) AllReadyH.nil
        go_simp
        refine (cmpF_c ba bb _).mono ?_
        rintro e w3 ⟨rfl, rfl⟩
        refine hK.out _ _ hHeld0 (fun hHeld1 => ?_)
        clear hK K
        (try simp only [Act.put, List.getElem_toArray, List.getElem_cons_zero, List.getElem_cons_succ, List.setIfInBounds_toArray, List.set_cons_zero, List.set_cons_succ])
        refine wpAnyH_take (i := 7) (v := ?_) rfl (by kernel_rfl) (by kernel_rfl) (by kernel_rfl) (fun _ _ _ h => h) (Or.inl ⟨by kernel_rfl, ?_⟩) (by assumption) ?_
        rotate_left
        · intro w hSw; (try dsimp only at hSw); go_simp; (try with_reducible rfl)
        (try simp only [Act.put, List.getElem_toArray, List.getElem_cons_zero, List.getElem_cons_succ, List.setIfInBounds_toArray, List.set_cons_zero, List.set_cons_succ])
        refine wpAnyH_take (i := 8) (v := ?_) rfl (by kernel_rfl) (by kernel_rfl) (by kernel_rfl) (fun _ _ _ h => h) (Or.inl ⟨by kernel_rfl, ?_⟩) (by assumption) ?_
        rotate_left
        · intro w hSw; (try dsimp only at hSw); go_simp; (try with_reducible rfl)
        (try simp only [Act.put, List.getElem_toArray, List.getElem_cons_zero, List.getElem_cons_succ, List.setIfInBounds_toArray, List.set_cons_zero, List.set_cons_succ])
        refine wpAnyH_take (i := 9) (v := ?_) rfl (by kernel_rfl) (by kernel_rfl) (by kernel_rfl) (fun _ _ _ h => h) (Or.inl ⟨by kernel_rfl, ?_⟩) (by assumption) ?_
        rotate_left
        · intro w hSw; (try dsimp only at hSw); go_simp; (try with_reducible rfl)
        (try simp only [Act.put, List.getElem_toArray, List.getElem_cons_zero, List.getElem_cons_succ, List.setIfInBounds_toArray, List.set_cons_zero, List.set_cons_succ])
        refine wpAnyH_take (i := 10) (v := ?_) rfl (by kernel_rfl) (by kernel_rfl) (by kernel_rfl) (fun _ _ _ h => h) (Or.inl ⟨by kernel_rfl, ?_⟩) (by assumption) ?_
        rotate_left
        · intro w hSw; (try dsimp only at hSw); go_simp; (try with_reducible rfl)
        (try simp only [Act.put, List.getElem_toArray, List.getElem_cons_zero, List.getElem_cons_succ, List.setIfInBounds_toArray, List.set_cons_zero, List.set_cons_succ])
        refine wpAnyH_done (by kernel_rfl) ?_ _
        go_wp2_with fail
        go_ret2
        rw [HE.out.1, HE.out.2]
        exact ⟨rfl, HK.out.drew⟩
      · by_cases h4 : ta = 4
        · subst h4
          have HE := Lib.hid (show ordL ⟨4, na, ba, sa⟩ ⟨4, nb, bb, sb⟩ = Op.bytesLess sa.toList sb.toList ∧ ordS ⟨4, na, ba, sa⟩ ⟨4, nb, bb, sb⟩ = decide (sa = sb) from ⟨rfl, rfl⟩)
          clear hn h2
          go_enter Tryz.func65, Tryz.ntmps65
          go_wp2_with (first | rw [HW1.out] | rw [z1] | rw [HW2.out])
          refine (cmpT_c sa sb W2).mono ?_
          rintro e w3 ⟨rfl, rfl⟩
          go_wp2_with fail
          go_ret2
          rw [HE.out.1, HE.out.2]
          exact ⟨rfl, HK.out⟩
        · have HE := Lib.hid (show ordL ⟨ta, na, ba, sa⟩ ⟨ta, nb, bb, sb⟩ = false ∧ ordS ⟨ta, na, ba, sa⟩ ⟨ta, nb, bb, sb⟩ = decide (ta = 5 ∨ ta = 6) by
            have : numT ta = false := decide_eq_false hn
            unfold ordL ordS
            simp [this, h2, h4])
          have c1 : (ta == 1) = false := by simp; omega
          have c2 : (ta == 2) = false := by simp; omega
          have c3 : (ta == 3) = false := by simp; omega
          have c4 : (ta == 4) = false := by simp; omega
          have c7 : (ta == 7) = false := by simp; omega
          by_cases h5 : ta = 5
          · subst h5
            clear c1 c2 c3 c4 c7 hn h2 h4
            go_enter Tryz.func65, Tryz.ntmps65
            go_wp2_with (first | rw [HW1.out] | rw [z1] | rw [HW2.out])
            refine wp_region_held_drew (S := (fun W => W.cell? ⟨w.heap.size, 0, none⟩ = some (.int .i64 5))) (by kernel_rfl) x0 (fun hHeld0 => ?_)
            refine wpAnyH_take (i := 0) (v := ?_) rfl (by kernel_rfl) (by kernel_rfl) (by kernel_rfl) (fun _ _ _ h => h) (Or.inl ⟨by kernel_rfl, ?_⟩) (by assumption) ?_
            rotate_left
            · intro w hSw; (try dsimp only at hSw); go_simp; (try with_reducible rfl)
            (try simp only [Act.put, List.getElem_toArray, List.getElem_cons_zero, List.getElem_cons_succ, List.setIfInBounds_toArray, List.set_cons_zero, List.set_cons_succ])
            refine wpAnyH_take (i := 1) (v := ?_) rfl (by kernel_rfl) (by kernel_rfl) (by kernel_rfl) (fun _ _ _ h => h) (Or.inl ⟨by kernel_rfl, ?_⟩) (by assumption) ?_
            rotate_left
            · intro w hSw; (try dsimp only at hSw); go_simp; (try with_reducible rfl)
            (try simp only [Act.put, List.getElem_toArray, List.getElem_cons_zero, List.getElem_cons_succ, List.setIfInBounds_toArray, List.set_cons_zero, List.set_cons_succ])
            refine wpAnyH_take (i := 2) (v := ?_) rfl (by kernel_rfl) (by kernel_rfl) (by kernel_rfl) (fun _ _ _ h => h) (Or.inl ⟨by kernel_rfl, ?_⟩) (by assumption) ?_
            rotate_left
            · intro w hSw; (try dsimp only at hSw); go_simp; (try with_reducible rfl)
            (try simp only [Act.put, List.getElem_toArray, List.getElem_cons_zero, List.getElem_cons_succ, List.setIfInBounds_toArray, List.set_cons_zero, List.set_cons_succ])
            refine wpAnyH_take (i := 3) (v := ?_) rfl (by kernel_rfl) (by kernel_rfl) (by kernel_rfl) (fun _ _ _ h => h) (Or.inl ⟨by kernel_rfl, ?_⟩) (by assumption) ?_
            rotate_left
            · intro w hSw; (try dsimp only at hSw); go_simp; (try with_reducible rfl)
            (try simp only [Act.put, List.getElem_toArray, List.getElem_cons_zero, List.getElem_cons_succ, List.setIfInBounds_toArray, List.set_cons_zero, List.set_cons_succ])
            refine wpAnyH_take (i := 4) (v := undef) rfl (by kernel_rfl) (by kernel_rfl) (by kernel_rfl) (fun _ _ _ h => h) (Or.inr ⟨by kernel_rfl, rfl⟩) (by assumption) ?_
            (try simp only [Act.put, List.getElem_toArray, List.getElem_cons_zero, List.getElem_cons_succ, List.setIfInBounds_toArray, List.set_cons_zero, List.set_cons_succ])
            refine wpAnyH_take (i := 5) (v := undef) rfl (by kernel_rfl) (by kernel_rfl) (by kernel_rfl) (fun _ _ _ h => h) (Or.inr ⟨by kernel_rfl, rfl⟩) (by assumption) ?_
            (try simp only [Act.put, List.getElem_toArray, List.getElem_cons_zero, List.getElem_cons_succ, List.setIfInBounds_toArray, List.set_cons_zero, List.set_cons_succ])
            refine wpAnyH_take (i := 6) (v := undef) rfl (by kernel_rfl) (by kernel_rfl) (by kernel_rfl) (fun _ _ _ h => h) (Or.inr ⟨by kernel_rfl, rfl⟩) (by assumption) ?_
            (try simp only [Act.put, List.getElem_toArray, List.getElem_cons_zero, List.getElem_cons_succ, List.setIfInBounds_toArray, List.set_cons_zero, List.set_cons_succ])
            refine wpAnyH_take (i := 7) (v := ?_) rfl (by kernel_rfl) (by kernel_rfl) (by kernel_rfl) (fun _ _ _ h => h) (Or.inl ⟨by kernel_rfl, ?_⟩) (by assumption) ?_
            rotate_left
            · intro w hSw; (try dsimp only at hSw); go_simp; (try with_reducible rfl)
            (try simp only [Act.put, List.getElem_toArray, List.getElem_cons_zero, List.getElem_cons_succ, List.setIfInBounds_toArray, List.set_cons_zero, List.set_cons_succ])
            refine wpAnyH_take (i := 8) (v := ?_) rfl (by kernel_rfl) (by kernel_rfl) (by kernel_rfl) (fun _ _ _ h => h) (Or.inl ⟨by kernel_rfl, ?_⟩) (by assumption) ?_
            rotate_left
            · intro w hSw; (try dsimp only at hSw); go_simp; (try with_reducible rfl)
            (try simp only [Act.put, List.getElem_toArray, List.getElem_cons_zero, List.getElem_cons_succ, List.setIfInBounds_toArray, List.set_cons_zero, List.set_cons_succ])
            refine wpAnyH_take (i := 9) (v := ?_) rfl (by kernel_rfl) (by kernel_rfl) (by kernel_rfl) (fun _ _ _ h => h) (Or.inl ⟨by kernel_rfl, ?_⟩) (by assumption) ?_
            rotate_left
            · intro w hSw; (try dsimp only at hSw); go_simp; (try with_reducible rfl)
            (try simp only [Act.put, List.getElem_toArray, List.getElem_cons_zero, List.getElem_cons_succ, List.setIfInBounds_toArray, List.set_cons_zero, List.set_cons_succ])
            refine wpAnyH_done (by kernel_rfl) ?_ _
            go_wp2_with fail
            go_ret2
            rw [HE.out.1, HE.out.2]
            exact ⟨rfl, HK.out.drew⟩
          · by_cases h6 : ta = 6
            · subst h6
              clear c1 c2 c3 c4 c7 hn h2 h4 h5
              go_enter Tryz.func65, Tryz.ntmps65
              go_wp2_with (first | rw [HW1.out] | rw [z1] | rw [HW2.out])
              refine wp_region_held_drew (S := (fun W => W.cell? ⟨w.heap.size, 0, none⟩ = some (.int .i64 6))) (by kernel_rfl) x0 (fun hHeld0 => ?_)
              refine wpAnyH_take (i := 0) (v := ?_) rfl (by kernel_rfl) (by kernel_rfl) (by kernel_rfl) (fun _ _ _ h => h) (Or.inl ⟨by kernel_rfl, ?_⟩) (by assumption) ?_
              rotate_left
              · intro w hSw; (try dsimp only at hSw); go_simp; (try with_reducible rfl)
              (try simp only [Act.put, List.getElem_toArray, List.getElem_cons_zero, List.getElem_cons_succ, List.setIfInBounds_toArray, List.set_cons_zero, List.set_cons_succ])
              refine wpAnyH_take (i := 1) (v := ?_) rfl (by kernel_rfl) (by kernel_rfl) (by kernel_rfl) (fun _ _ _ h => h) (Or.inl ⟨by kernel_rfl, ?_⟩) (by assumption) ?_
              rotate_left
              · intro w hSw; (try dsimp only at hSw); go_simp; (try with_reducible rfl)
              (try simp only [Act.put, List.getElem_toArray, List.getElem_cons_zero, List.getElem_cons_succ, List.setIfInBounds_toArray, List.set_cons_zero, List.set_cons_succ])
              refine wpAnyH_take (i := 2) (v := ?_) rfl (by kernel_rfl) (by kernel_rfl) (by kernel_rfl) (fun _ _ _ h => h) (Or.inl ⟨by kernel_rfl, ?_⟩) (by assumption) ?_
              rotate_left
              · intro w hSw; (try dsimp only at hSw); go_simp; (try with_reducible rfl)
              (try simp only [Act.put, List.getElem_toArray, List.getElem_cons_zero, List.getElem_cons_succ, List.setIfInBounds_toArray, List.set_cons_zero, List.set_cons_succ])
              refine wpAnyH_take (i := 3) (v := ?_) rfl (by kernel_rfl) (by kernel_rfl) (by kernel_rfl) (fun _ _ _ h => h) (Or.inl ⟨by kernel_rfl, ?_⟩) (by assumption) ?_
              rotate_left
              · intro w hSw; (try dsimp only at hSw); go_simp; (try with_reducible rfl)
              (try simp only [Act.put, List.getElem_toArray, List.getElem_cons_zero, List.getElem_cons_succ, List.setIfInBounds_toArray, List.set_cons_zero, List.set_cons_succ])
              refine wpAnyH_take (i := 4) (v := ?_) rfl (by kernel_rfl) (by kernel_rfl) (by kernel_rfl) (fun _ _ _ h => h) (Or.inl ⟨by kernel_rfl, ?_⟩) (by assumption) ?_
              rotate_left
              · intro w hSw; (try dsimp only at hSw); go_simp; (try with_reducible rfl)
              (try simp only [Act.put, List.getElem_toArray, List.getElem_cons_zero, List.getElem_cons_succ, List.setIfInBounds_toArray, List.set_cons_zero, List.set_cons_succ])
              refine wpAnyH_take (i := 5) (v := ?_) rfl (by kernel_rfl) (by kernel_rfl) (by kernel_rfl) (fun _ _ _ h => h) (Or.inl ⟨by kernel_rfl, ?_⟩) (by assumption) ?_
              rotate_left
              · intro w hSw; (try dsimp only at hSw); go_simp; (try with_reducible rfl)
              (try simp only [Act.put, List.getElem_toArray, List.getElem_cons_zero, List.getElem_cons_succ, List.setIfInBounds_toArray, List.set_cons_zero, List.set_cons_succ])
              refine wpAnyH_take (i := 6) (v := ?_) rfl (by kernel_rfl) (by kernel_rfl) (by kernel_rfl) (fun _ _ _ h => h) (Or.inl ⟨by kernel_rfl, ?_⟩) (by assumption) ?_
              rotate_left
              · intro w hSw; (try dsimp only at hSw); go_simp; (try with_reducible rfl)
              (try simp only [Act.put, List.getElem_toArray, List.getElem_cons_zero, List.getElem_cons_succ, List.setIfInBounds_toArray, List.set_cons_zero, List.set_cons_succ])
              refine wpAnyH_take (i := 7) (v := ?_) rfl (by kernel_rfl) (by kernel_rfl) (by kernel_rfl) (fun _ _ _ h => h) (Or.inl ⟨by kernel_rfl, ?_⟩) (by assumption) ?_
              rotate_left
              · intro w hSw; (try dsimp only at hSw); go_simp; (try with_reducible rfl)
              (try simp only [Act.put, List.getElem_toArray, List.getElem_cons_zero, List.getElem_cons_succ, List.setIfInBounds_toArray, List.set_cons_zero, List.set_cons_succ])
              refine wpAnyH_take (i := 8) (v := ?_) rfl (by kernel_rfl) (by kernel_rfl) (by kernel_rfl) (fun _ _ _ h => h) (Or.inl ⟨by kernel_rfl, ?_⟩) (by assumption) ?_
              rotate_left
              · intro w hSw; (try dsimp only at hSw); go_simp; (try with_reducible rfl)
              (try simp only [Act.put, List.getElem_toArray, List.getElem_cons_zero, List.getElem_cons_succ, List.setIfInBounds_toArray, List.set_cons_zero, List.set_cons_succ])
              refine wpAnyH_take (i := 9) (v := ?_) rfl (by kernel_rfl) (by kernel_rfl) (by kernel_rfl) (fun _ _ _ h => h) (Or.inl ⟨by kernel_rfl, ?_⟩) (by assumption) ?_
              rotate_left
              · intro w hSw; (try dsimp only at hSw); go_simp; (try with_reducible rfl)
              (try simp only [Act.put, List.getElem_toArray, List.getElem_cons_zero, List.getElem_cons_succ, List.setIfInBounds_toArray, List.set_cons_zero, List.set_cons_succ])
              refine wpAnyH_done (by kernel_rfl) ?_ _
              go_wp2_with fail
              go_ret2
              rw [HE.out.1, HE.out.2]
              exact ⟨rfl, HK.out.drew⟩
            · have c5 : (ta == 5) = false := by simp; omega
              have c6 : (ta == 6) = false := by simp; omega
              have HE2 := Lib.hid (show decide (ta = 5 ∨ ta = 6) = false from decide_eq_false (by omega))
              clear hn h2 h4 h5 h6
              go_enter Tryz.func65, Tryz.ntmps65
              go_wp2_with (first | rw [HW1.out] | rw [z1] | rw [HW2.out])
              refine wp_region_held_drew (S := (fun W => W.cell? ⟨w.heap.size, 0, none⟩ = some (.int .i64 ta))) (by kernel_rfl) x0 (fun hHeld0 => ?_)
              refine wpAnyH_take (i := 0) (v := ?_) rfl (by kernel_rfl) (by kernel_rfl) (by kernel_rfl) (fun _ _ _ h => h) (Or.inl ⟨by kernel_rfl, ?_⟩) (by assumption) ?_
              rotate_left
              · intro w hSw; (try dsimp only at hSw); go_simp; (try with_reducible rfl)
              (try simp only [Act.put, List.getElem_toArray, List.getElem_cons_zero, List.getElem_cons_succ, List.setIfInBounds_toArray, List.set_cons_zero, List.set_cons_succ])
              refine wpAnyH_take (i := 1) (v := ?_) rfl (by kernel_rfl) (by kernel_rfl) (by kernel_rfl) (fun _ _ _ h => h) (Or.inl ⟨by kernel_rfl, ?_⟩) (by assumption) ?_
              rotate_left
              · intro w hSw; (try dsimp only at hSw); go_simp; (try with_reducible rfl)
              (try simp only [Act.put, List.getElem_toArray, List.getElem_cons_zero, List.getElem_cons_succ, List.setIfInBounds_toArray, List.set_cons_zero, List.set_cons_succ])
              refine wpAnyH_take (i := 2) (v := ?_) rfl (by kernel_rfl) (by kernel_rfl) (by kernel_rfl) (fun _ _ _ h => h) (Or.inl ⟨by kernel_rfl, ?_⟩) (by assumption) ?_
              rotate_left
              · intro w hSw; (try dsimp only at hSw); go_simp; (try with_reducible rfl)
              (try simp only [Act.put, List.getElem_toArray, List.getElem_cons_zero, List.getElem_cons_succ, List.setIfInBounds_toArray, List.set_cons_zero, List.set_cons_succ])
              refine wpAnyH_take (i := 3) (v := ?_) rfl (by kernel_rfl) (by kernel_rfl) (by kernel_rfl) (fun _ _ _ h => h) (Or.inl ⟨by kernel_rfl, ?_⟩) (by assumption) ?_
              rotate_left
              · intro w hSw; (try dsimp only at hSw); go_simp; (try with_reducible rfl)
              (try simp only [Act.put, List.getElem_toArray, List.getElem_cons_zero, List.getElem_cons_succ, List.setIfInBounds_toArray, List.set_cons_zero, List.set_cons_succ])
              refine wpAnyH_take (i := 4) (v := ?_) rfl (by kernel_rfl) (by kernel_rfl) (by kernel_rfl) (fun _ _ _ h => h) (Or.inl ⟨by kernel_rfl, ?_⟩) (by assumption) ?_
              rotate_left
              · intro w hSw; (try dsimp only at hSw); go_simp; (try with_reducible rfl)
              (try simp only [Act.put, List.getElem_toArray, List.getElem_cons_zero, List.getElem_cons_succ, List.setIfInBounds_toArray, List.set_cons_zero, List.set_cons_succ])
              refine wpAnyH_take (i := 5) (v := ?_) rfl (by kernel_rfl) (by kernel_rfl) (by kernel_rfl) (fun _ _ _ h => h) (Or.inl ⟨by kernel_rfl, ?_⟩) (by assumption) ?_
              rotate_left
              · intro w hSw; (try dsimp only at hSw); go_simp; (try with_reducible rfl)
              (try simp only [Act.put, List.getElem_toArray, List.getElem_cons_zero, List.getElem_cons_succ, List.setIfInBounds_toArray, List.set_cons_zero, List.set_cons_succ])
              refine wpAnyH_take (i := 6) (v := ?_) rfl (by kernel_rfl) (by kernel_rfl) (by kernel_rfl) (fun _ _ _ h => h) (Or.inl ⟨by kernel_rfl, ?_⟩) (by assumption) ?_
              rotate_left
              · intro w hSw; (try dsimp only at hSw); go_simp; (try with_reducible rfl)
              (try simp only [Act.put, List.getElem_toArray, List.getElem_cons_zero, List.getElem_cons_succ, List.setIfInBounds_toArray, List.set_cons_zero, List.set_cons_succ])
              refine wpAnyH_take (i := 7) (v := ?_) rfl (by kernel_rfl) (by kernel_rfl) (by kernel_rfl) (fun _ _ _ h => h) (Or.inl ⟨by kernel_rfl, ?_⟩) (by assumption) ?_
              rotate_left
              · intro w hSw; (try dsimp only at hSw); go_simp; (try with_reducible rfl)
              (try simp only [Act.put, List.getElem_toArray, List.getElem_cons_zero, List.getElem_cons_succ, List.setIfInBounds_toArray, List.set_cons_zero, List.set_cons_succ])
              refine wpAnyH_take (i := 8) (v := ?_) rfl (by kernel_rfl) (by kernel_rfl) (by kernel_rfl) (fun _ _ _ h => h) (Or.inl ⟨by kernel_rfl, ?_⟩) (by assumption) ?_
              rotate_left
              · intro w hSw; (try dsimp only at hSw); go_simp; (try with_reducible rfl)
              (try simp only [Act.put, List.getElem_toArray, List.getElem_cons_zero, List.getElem_cons_succ, List.setIfInBounds_toArray, List.set_cons_zero, List.set_cons_succ])
              refine wpAnyH_take (i := 9) (v := ?_) rfl (by kernel_rfl) (by kernel_rfl) (by kernel_rfl) (fun _ _ _ h => h) (Or.inl ⟨by kernel_rfl, ?_⟩) (by assumption) ?_
              rotate_left
              · intro w hSw; (try dsimp only at hSw); go_simp; (try with_reducible rfl)
              (try simp only [Act.put, List.getElem_toArray, List.getElem_cons_zero, List.getElem_cons_succ, List.setIfInBounds_toArray, List.set_cons_zero, List.set_cons_succ])
              refine wpAnyH_done (by kernel_rfl) ?_ _
              go_wp2_with fail
              go_ret2
              rw [HE.out.1, HE.out.2, HE2.out]
              exact ⟨rfl, HK.out.drew⟩
  · have HE := Lib.hid (show ordL ⟨ta, na, ba, sa⟩ ⟨tb, nb, bb, sb⟩ = false ∧ ordS ⟨ta, na, ba, sa⟩ ⟨tb, nb, bb, sb⟩ = false by unfold ordL ordS; exact ⟨if_neg ht, if_neg ht⟩)
    have c : (ta == tb) = false := by simpa using ht
    clear ht
    go_enter Tryz.func65, Tryz.ntmps65
    go_wp2_with (first | rw [HW1.out] | rw [z1] | rw [HW2.out])
    go_ret2
    rw [HE.out.1, HE.out.2]
    exact ⟨rfl, HK.out⟩
end Go.Proofs.YtcaailiijmjdlaaGreatDoor
