/- Rows of texts; slices.Contains and cmp.Or at texts; what is told of types: oper, both, one. -/
import Derived.Test.YtcaailiijmjdlaaGreatDoorZpp
import Derived.Test.YtcaailiijmjdlaaGreatDoorRow
import Derived.Test.YtcaailiijmjdlaaGreatDoorMpl
import Derived.Test.YtcaailiijmjdlaaGreatDoorApk
import Derived.Shelf.Abstract
import Derived.Deep.LoopGhost
import Derived.Deep.QuietTactic
import Derived.Laws.BytesString
import Derived.Laws.ResultCell
import Derived.Laws.Rows
import Derived.StringKeys
import Derived.Carry
set_option linter.unusedSimpArgs false
set_option linter.unusedVariables false
set_option maxRecDepth 100000
namespace Go.Proofs.YtcaailiijmjdlaaGreatDoor
open Go.ChangeShapes Go.WideShapes Go.ChangeAt Go.RowKit
attribute [local go_sem] Oper.semAt_some
open Zp (e0 dy R oper both one goes orR bad)

/-- A text in memory; a list of them. -/
def TxB (w : World) (b o : Nat) (x : ByteArray) : Prop := w.cell? ⟨b, o, none⟩ = some (.string x)
abbrev TxR (w : World) (v : Value) (l : List ByteArray) : Prop := Row 1 TxB w v l
theorem TxR.kept {w w' : World} {v : Value} {l : List ByteArray} (h : TxR w v l) (k : Kept w w') : TxR w' v l := Row.mono h fun b o x h => k.cell h
theorem txLen {n : Nat} (h : n ≤ 100) : n ≤ maxLen := by unfold maxLen; omega
theorem TxR.lit {w : World} {g : Nat} {t : TypeId} (l : List ByteArray) (hb : Blk w g t (l.map Value.string).toArray) (hm : l.length ≤ 100) : TxR w (.slice (some ⟨g, 0, none⟩) l.length l.length) l :=
  ⟨_, _, rfl, Nat.le_refl _, txLen hm, fun i x hx => ⟨g, 0, rfl, by unfold TxB; rw [hb.cell]; simp [hx]⟩⟩
theorem TxR.owns {w : World} {base n : Nat} {e : TypeId} {v : Value} {l : List ByteArray} (h : w.ownsRow base e 1 v n (l.map Value.string)) : TxR w v l := by
  obtain ⟨h1, h2⟩ := h
  simp at h1
  subst h1
  rcases h2 with ⟨rfl, h0⟩ | ⟨g, cap, cur, rfl, hb, hg, hc, hm, hsz, htk⟩
  · obtain rfl := List.eq_nil_of_length_eq_zero h0
    exact Row.nil
  · refine ⟨_, _, rfl, hc, hm, fun i x hx => ⟨g, 0, rfl, ?_⟩⟩
    unfold TxB
    have hi := (List.getElem?_eq_some_iff.1 hx).1
    rw [show (0 + i * 1 : Nat) = i by omega, cell_of_row w g i cur e (0, 0) hg]
    have : (cur.toList.take (l.length * 1))[i]? = some (.string x) := by rw [htk]; simp [hx]
    rw [List.getElem?_take, if_pos (by omega)] at this
    simpa using this

theorem teq_yes {x s : ByteArray} (h : x = s) : (x.toList == s.toList) = true := by rw [h]; exact beq_self_eq_true _
theorem teq_no {x s : ByteArray} (h : ¬ x = s) : (x.toList == s.toList) = false := by
  rw [beq_eq_false_iff_ne]
  intro e
  rw [ByteArray.toList_eq, ByteArray.toList_eq] at e
  exact h (ByteArray.ext (Array.toList_inj.1 e))
theorem wrd_has {l : List ByteArray} {x : ByteArray} : Wrd.has l x = true ↔ x ∈ l := by
  unfold Wrd.has
  simp
theorem wrd_hasF {l : List ByteArray} {x : ByteArray} : Wrd.has l x = false ↔ x ∉ l := by
  rw [← wrd_has]; simp

/-- Whether a place that was told is one. -/
def IdxZ (k : Int) (x : ByteArray) (l : List ByteArray) : Prop := decide (0 ≤ k) = Wrd.has l x
theorem zindex_c (a : Option Addr) (c : Nat) (l : List ByteArray) (x : ByteArray) (w : World) (h : TxR w (.slice a l.length c) l) :
    Calls Tryz.prog 172 #[.slice a l.length c, .string x] w fun e w' => ∃ k : Int, e = .returned (.int .i64 k) ∧ IdxZ k x l ∧ w' = w := by
  have hcap : l.length ≤ maxLen := Row.len h
  obtain ⟨_, _, e0, _, _, hat⟩ := h
  injection e0 with e1 e2 e3
  subst e1 e3
  clear e2
  have HAT := Lib.hid hat
  clear hat
  unfold maxLen at hcap
  go_enter Tryz.func172, Tryz.ntmps172
  go_wp2_with fail
  go_loopw [8] (fun i wr => ∃ k : Nat, i = .int .i64 k ∧ k ≤ l.length ∧ Hid (x ∉ l.take k) ∧ wr = w) (fun i wr => l.length - (intOf i).toNat)
  case atStart => exact ⟨0, rfl, Nat.zero_le _, Lib.hid (by simp), rfl⟩
  case round =>
    obtain ⟨k, rfl, hk, HN, rfl⟩ := hrel
    by_cases hlt : k < l.length
    · have hltI : (k : Int) < (l.length : Int) := by omega
      have hx : l[k]? = some l[k] := List.getElem?_eq_getElem hlt
      generalize hy : l[k] = y at hx
      obtain ⟨b, o, rfl, hc⟩ := HAT.out k y hx
      unfold TxB at hc
      rw [Nat.mul_one] at hc
      have HX := Lib.hid hx
      clear hx hy
      by_cases hxy : x = y
      · have hb := teq_yes hxy
        have HD := Lib.hid (show IdxZ (k : Int) x l by unfold IdxZ; rw [decide_eq_true (by omega : (0 : Int) ≤ (k : Int)), wrd_has.2 (by rw [hxy]; exact List.mem_of_getElem? HX.out)])
        clear hxy
        go_wp2_with fail
        go_ret
        exact ⟨k, rfl, HD.out, rfl⟩
      · have hb := teq_no hxy
        have HN2 := Lib.hid (show x ∉ l.take (k + 1) by
          rw [List.take_add_one, HX.out]
          simp only [Option.toList_some, List.mem_append, List.mem_singleton, not_or]
          exact ⟨HN.out, hxy⟩)
        clear hxy
        go_wp2_with fail
        go_roundw
        case rel => exact ⟨k + 1, by go_num, by omega, HN2, by first | trivial | rfl⟩
        case measure => simp [intOf]; omega
    · obtain rfl : k = l.length := by omega
      have HD := Lib.hid (show IdxZ (-1) x l by
        unfold IdxZ
        have := HN.out
        rw [List.take_length] at this
        rw [wrd_hasF.2 this]; rfl)
      go_wp2_with fail
      go_ret
      exact ⟨-1, rfl, HD.out, rfl⟩
theorem zcontains_c (a : Option Addr) (n c : Nat) (l : List ByteArray) (x : ByteArray) (w : World) (h : TxR w (.slice a n c) l) :
    Calls Tryz.prog 166 #[.slice a n c, .string x] w fun e w' => e = .returned (.bool (Wrd.has l x)) ∧ w' = w := by
  obtain rfl : n = l.length := by obtain ⟨_, _, e, _⟩ := h; injection e
  have HI := Lib.hid (zindex_c a c l x w h)
  clear h
  go_enter Tryz.func166, Tryz.ntmps166
  go_wp2_with fail
  refine HI.out.mono ?_
  rintro e w' ⟨k, rfl, HD, rfl⟩
  go_wp2_with fail
  go_ret
  exact ⟨by have := HD; unfold IdxZ at this; rw [← this]; rfl, rfl⟩

/-- The first of two texts that is not empty. -/
theorem zor_c (x y : ByteArray) (w : World) (g : Nat) (t : TypeId) (hb : Blk w g t #[.string x, .string y]) :
    Calls Tryz.prog 167 #[.slice (some ⟨g, 0, none⟩) 2 2] w fun e w' => e = .returned (.string (orR x y)) ∧ w' = w := by
  have c0 := hb.cell 0
  have c1 := hb.cell 1
  simp at c0 c1
  clear hb
  have hE : ∀ z : ByteArray, (¬ z = e0) → (z.toList == ([] : List UInt8)) = false := fun z h => by
    have := teq_no h
    rw [ByteArray.toList_eq e0] at this
    exact this
  go_enter Tryz.func167, Tryz.ntmps167
  go_wp2_with fail
  go_loopw [8] (fun i wr => (i = .int .i64 0 ∨ (i = .int .i64 1 ∧ Hid (x = e0)) ∨ (i = .int .i64 2 ∧ Hid (x = e0 ∧ y = e0))) ∧ wr = w) (fun i wr => 2 - (intOf i).toNat)
  case atStart => exact ⟨.inl rfl, rfl⟩
  case round =>
    obtain ⟨rfl | ⟨rfl, HX⟩ | ⟨rfl, HX⟩, rfl⟩ := hrel
    · by_cases hx : x = e0
      · subst hx
        go_wp2_with fail
        go_roundw
        case rel => exact ⟨.inr (.inl ⟨by go_num, Lib.hid (by first | trivial | rfl)⟩), by first | trivial | rfl⟩
        case measure => simp [intOf]
      · have h1 := hE x hx
        have HR := Lib.hid (show orR x y = x from if_neg hx)
        clear hx
        go_wp2_with fail
        go_ret
        exact ⟨congrArg (fun z => Ending.returned (.string z)) HR.out.symm, rfl⟩
    · by_cases hy : y = e0
      · subst hy
        go_wp2_with fail
        go_roundw
        case rel => exact ⟨.inr (.inr ⟨by go_num, Lib.hid ⟨HX.out, by first | trivial | rfl⟩⟩), by first | trivial | rfl⟩
        case measure => simp [intOf]
      · have h1 := hE y hy
        have HR := Lib.hid (show orR x y = y from if_pos HX.out)
        clear hy
        go_wp2_with fail
        go_ret
        exact ⟨congrArg (fun z => Ending.returned (.string z)) HR.out.symm, rfl⟩
    · have HR := Lib.hid (show orR x y = e0 from (if_pos HX.out.1).trans HX.out.2)
      go_wp2_with fail
      go_ret
      exact ⟨congrArg (fun z => Ending.returned (.string z)) HR.out.symm, rfl⟩

/-- What is told of types, as values. -/
def Zp.R.val (r : R) : Value := .tuple #[.agg #[.string r.arg, .string r.res, .bool r.dyn], .int .i64 r.err]
abbrev opT : TypeId := 24
abbrev opZ : Array Value := #[.string ⟨#[]⟩, .string ⟨#[]⟩, .bool false]
theorem op_results {fn : Func} {q u : Tmp} (h : fn.results = #[.cell q opT, .tmp u]) (tmps : Array Value) (W : World) {g : Nat} {x y z v : Value}
    (hp : tmps.getD q undef = .pointer (some ⟨g, 0, none⟩)) (hv : tmps.getD u undef = v) (hg : Blk W g opT #[x, y, z]) : (results fn tmps).run Tryz.prog W = .ok (.tuple #[.agg #[x, y, z], v]) W := by
  rw [results_cell_tmp h]
  have hp' : tmps[q]?.getD undef = .pointer (some ⟨g, 0, none⟩) := by simpa using hp
  simp only [Array.getD_eq_getD_getElem?] at hv ⊢
  rw [hv]
  simp [asAddr, hp', Result.andThen, run_loadVar_row W g opT opT #[x, y, z] (0, 0) _ hg Tryz.underlying24 (by rfl) (by kernel_rfl)]
def put3 (W : World) (g : Nat) (x y z : Value) : World := ((W.setCell ⟨g, 0, none⟩ x).setCell ⟨g, 1, none⟩ y).setCell ⟨g, 2, none⟩ z
theorem put3_blk {W : World} {g : Nat} {t : TypeId} {a b c : Value} (h : Blk W g t #[a, b, c]) (x y z : Value) : Blk (put3 W g x y z) g t #[x, y, z] := by
  have := ((h.put 0 x).put 1 y).put 2 z
  simpa [put3] using this
theorem put3_only (W : World) (g : Nat) (x y z : Value) : Only (· = g) W (put3 W g x y z) := (((Only.refl _ W).put 0 _).put 1 _).put 2 _
/-- The end of a function whose result lies in a cell of its own. -/
theorem op_end {fn : Func} {q u : Tmp} {a : Act} {w W : World} {r : R} {a0 a1 a2 : Value} (hf : fn.results = #[.cell q opT, .tmp u]) (hd : a.defers = []) (hp : a.tmps.getD q undef = .pointer (some ⟨w.heap.size, 0, none⟩)) (hv : a.tmps.getD u undef = .int .i64 r.err)
    (hb : Blk W w.heap.size opT #[a0, a1, a2]) (hk : Kept w W) : bodyPost Tryz.prog fn (fun e w' => e = .returned r.val ∧ Kept w w') .ret a (put3 W w.heap.size (.string r.arg) (.string r.res) (.bool r.dyn)) :=
  bodyPost_ret (op_results hf _ _ hp hv (put3_blk hb _ _ _)) hd ⟨rfl, hk.only (put3_only _ _ _ _ _) rfl (fun k e => by omega)⟩

set_option maxHeartbeats 1000000 in
theorem zoper_c (arg res : ByteArray) (a : Option Addr) (n c : Nat) (l : List ByteArray) (w : World) (h : TxR w (.slice a n c) l) :
    Calls Tryz.prog 155 #[.string arg, .string res, .slice a n c] w fun e w' => e = .returned (oper arg res l).val ∧ Kept w w' := by
  obtain ⟨W0, hW0⟩ : ∃ W, w.alloc (.cells opZ opT) = W := ⟨_, rfl⟩
  have k0 : Kept w W0 := by rw [← hW0]; exact (Kept.refl _).alloc _
  have b0 : Blk W0 w.heap.size opT opZ := by rw [← hW0]; exact Blk.new _ _ _
  have HC := Lib.hid (zcontains_c a n c l arg W0 (h.kept k0))
  have HW0 := Lib.hid hW0
  have HK := Lib.hid k0
  have HB := Lib.hid b0
  have f0 := b0.frozen 0
  have f1 := b0.frozen 1
  have f2 := b0.frozen 2
  have y0 := b0.cell 0
  have y1 := b0.cell 1
  have y2 := b0.cell 2
  simp at y0 y1 y2
  clear h hW0 k0 b0
  cases hc : Wrd.has l arg with
  | false =>
    rw [hc] at HC
    have HE := Lib.hid (show oper arg res l = bad 7 by unfold oper; rw [if_neg (by unfold Zp.has; rw [hc]; decide)])
    clear hc
    go_enter Tryz.func155, Tryz.ntmps155
    go_wp2_with (rw [HW0.out])
    refine HC.out.mono ?_
    rintro e w1 ⟨rfl, rfl⟩
    go_wp2_with fail
    rw [HE.out]
    exact op_end (r := bad 7) (by rfl) rfl rfl rfl HB.out HK.out
  | true =>
    rw [hc] at HC
    have HE := Lib.hid (show oper arg res l = ⟨arg, orR res arg, decide (arg = dy), 0⟩ by unfold oper; rw [if_pos (by unfold Zp.has; rw [hc])])
    have hd : (arg.toList == [63]) = decide (arg = dy) := by
      by_cases e : arg = dy
      · subst e; kernel_rfl
      · have := teq_no e
        rw [ByteArray.toList_eq dy] at this
        rw [decide_eq_false e]
        exact this
    clear hc
    obtain ⟨W1, hW1⟩ : ∃ W, W0.alloc (.cells #[.string res, .string arg] 9) = W := ⟨_, rfl⟩
    have k1 : Kept W0 W1 := by rw [← hW1]; exact (Kept.refl _).alloc _
    have b1 : Blk W1 W0.heap.size 9 #[.string res, .string arg] := by rw [← hW1]; exact Blk.new _ _ _
    have HO := Lib.hid (zor_c res arg W1 W0.heap.size _ b1)
    have HB1 := Lib.hid (HB.out.kept k1)
    have HK1 := Lib.hid (HK.out.trans k1)
    have HW1 := Lib.hid hW1
    clear k1 b1 hW1
    go_enter Tryz.func155, Tryz.ntmps155
    go_wp2_with (rw [HW0.out])
    refine HC.out.mono ?_
    rintro e w1 ⟨rfl, rfl⟩
    go_wp2_with (rw [HW1.out])
    refine HO.out.mono ?_
    rintro e w1 ⟨rfl, rfl⟩
    have g0 := HB1.out.frozen 0
    have g1 := HB1.out.frozen 1
    have g2 := HB1.out.frozen 2
    have z0 := HB1.out.cell 0
    have z1 := HB1.out.cell 1
    have z2 := HB1.out.cell 2
    simp at z0 z1 z2
    go_wp2_with fail
    rw [HE.out]
    exact op_end (r := ⟨arg, orR res arg, decide (arg = dy), 0⟩) (by rfl) rfl rfl rfl HB1.out HK1.out
end Go.Proofs.YtcaailiijmjdlaaGreatDoor
