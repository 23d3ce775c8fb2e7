/- The printer's ways that ask before they print: real, truth, call, operation. -/
import Derived.Test.YtfpklgffdniegaaGreatDoorQw33
import Derived.Test.YtfpklgffdniegaaGreatDoorQw28
import Derived.Carry
import Derived.Test.YtfpklgffdniegaaGreatDoorQw32
import Derived.Test.YtfpklgffdniegaaGreatDoorQw31
set_option linter.unusedSimpArgs false
set_option linter.unusedVariables false
set_option maxRecDepth 100000
namespace Go.Proofs.YtfpklgffdniegaaGreatDoor
open Go.ChangeShapes Go.WideShapes Go.ChangeAt Go.RowKit
attribute [local go_sem] Oper.semAt_some
open Pr (key sgn nam tk toks typT ann sep brk at1)
set_option maxHeartbeats 4000000 in
theorem pm_real (g mb : Nat) (t y f : ByteArray) (n : Int) (L : List Lx.T) (v : Value) (w : World) (ad : Option Addr) (ck : Nat) (h : PrS g mb L v w) (hn : L.length + 1 ≤ 1000000000) :
  Calls Tryz.prog 66 #[.pointer (some ⟨g, 0, none⟩), .agg #[.int .i64 8, .string t, .string y, .string f, .int .i64 n, .slice ad 0 ck]] w (PrPost g mb (L ++ Pr.form 8 t y n []) v w) := by
 obtain ⟨W1, hW1⟩ : ∃ W, w.alloc (.cells #[.int .i64 8, .string t, .string y, .string f, .int .i64 n, .slice ad 0 ck] 24) = W := ⟨_, rfl⟩
 have k1 : Kept w W1 := by rw [← hW1]; exact (Kept.refl _).alloc _
 have b1 : Blk W1 w.heap.size 24 #[.int .i64 8, .string t, .string y, .string f, .int .i64 n, .slice ad 0 ck] := by rw [← hW1]; exact Blk.new _ _ _
 have HS1 := Lib.hid (h.kept k1)
 have HK1 := Lib.hid k1
 have HW1 := Lib.hid hW1
 have y1 := b1.cell 1
 have y4 := b1.cell 4
 by_cases ht : t = Ps.e0
 ·have HE := Lib.hid (show Pr.form 8 t y n [] = [tk 5 Ps.e0 n] by show (if t = Ps.e0 then _ else _) = _; rw [if_pos ht])
  have hse : (t.toList == []) = true := by rw [ht]; exact emp_yes0
  have HX := Lib.hid (padd_c g mb L v (tk 5 Ps.e0 n) W1 HS1.out (by omega))
  clear h k1 b1 hW1 hn ht
  go_enter Tryz.func66, Tryz.ntmps66
  go_wp2_with (rw [HW1.out])
  refine HX.out.mono ?_
  rintro e w2 ⟨rfl, v2, h2, r2⟩
  have HF := Lib.hid (And.intro h2 ((PrR.of_kept (g := g) HK1.out v).trans r2))
  clear h2 r2
  go_wp2_with fail
  go_ret
  exact ⟨rfl, v2, by rw [HE.out]; exact HF.out.1, HF.out.2⟩
 ·have HE := Lib.hid (show Pr.form 8 t y n [] = [key t] by show (if t = Ps.e0 then _ else _) = _; rw [if_neg ht])
  have hse : (t.toList == []) = false := lit_no ht
  have HX := Lib.hid (pkey_c t HS1.out (by omega))
  clear h k1 b1 hW1 hn ht
  go_enter Tryz.func66, Tryz.ntmps66
  go_wp2_with (rw [HW1.out])
  refine HX.out.mono ?_
  rintro e w2 ⟨rfl, v2, h2, r2⟩
  have HF := Lib.hid (And.intro h2 ((PrR.of_kept (g := g) HK1.out v).trans r2))
  clear h2 r2
  go_wp2_with fail
  go_ret
  exact ⟨rfl, v2, by rw [HE.out]; exact HF.out.1, HF.out.2⟩
set_option maxHeartbeats 4000000 in
theorem pm_truth (g mb : Nat) (t y f : ByteArray) (n : Int) (L : List Lx.T) (v : Value) (w : World) (ad : Option Addr) (ck : Nat) (h : PrS g mb L v w) (hn : L.length + 1 ≤ 1000000000) :
  Calls Tryz.prog 67 #[.pointer (some ⟨g, 0, none⟩), .agg #[.int .i64 9, .string t, .string y, .string f, .int .i64 n, .slice ad 0 ck]] w (PrPost g mb (L ++ Pr.form 9 t y n []) v w) := by
 obtain ⟨W1, hW1⟩ : ∃ W, w.alloc (.cells #[.int .i64 9, .string t, .string y, .string f, .int .i64 n, .slice ad 0 ck] 24) = W := ⟨_, rfl⟩
 have k1 : Kept w W1 := by rw [← hW1]; exact (Kept.refl _).alloc _
 have b1 : Blk W1 w.heap.size 24 #[.int .i64 9, .string t, .string y, .string f, .int .i64 n, .slice ad 0 ck] := by rw [← hW1]; exact Blk.new _ _ _
 have HS1 := Lib.hid (h.kept k1)
 have HK1 := Lib.hid k1
 have HW1 := Lib.hid hW1
 have y4 := b1.cell 4
 by_cases ht : n = 0
 ·have HE := Lib.hid (show Pr.form 9 t y n [] = [key ⟨#[102, 97, 108, 115, 101]⟩] by show (if n = 0 then _ else _) = _; rw [if_pos ht])
  have HX := Lib.hid (pkey_c ⟨#[102, 97, 108, 115, 101]⟩ HS1.out (by omega))
  have hb : (n == 0) = true := by simp [ht]
  clear h k1 b1 hW1 hn ht
  go_enter Tryz.func67, Tryz.ntmps67
  go_wp2_with (rw [HW1.out])
  refine HX.out.mono ?_
  rintro e w2 ⟨rfl, v2, h2, r2⟩
  have HF := Lib.hid (And.intro h2 ((PrR.of_kept (g := g) HK1.out v).trans r2))
  clear h2 r2
  go_wp2_with fail
  go_ret
  exact ⟨rfl, v2, by rw [HE.out]; exact HF.out.1, HF.out.2⟩
 ·have HE := Lib.hid (show Pr.form 9 t y n [] = [key ⟨#[116, 114, 117, 101]⟩] by show (if n = 0 then _ else _) = _; rw [if_neg ht])
  have HX := Lib.hid (pkey_c ⟨#[116, 114, 117, 101]⟩ HS1.out (by omega))
  have hb : (n == 0) = false := by simp [ht]
  clear h k1 b1 hW1 hn ht
  go_enter Tryz.func67, Tryz.ntmps67
  go_wp2_with (rw [HW1.out])
  refine HX.out.mono ?_
  rintro e w2 ⟨rfl, v2, h2, r2⟩
  have HF := Lib.hid (And.intro h2 ((PrR.of_kept (g := g) HK1.out v).trans r2))
  clear h2 r2
  go_wp2_with fail
  go_ret
  exact ⟨rfl, v2, by rw [HE.out]; exact HF.out.1, HF.out.2⟩
/-- Two operands. -/
abbrev opT : TypeId := 141
abbrev opC (x : Nd) (s : Value) (i : Int) : List Value := [.int .i64 x.kind, .string x.text, .string x.typ, .string x.frm, .int .i64 x.n, s, .int .i64 i]
set_option maxHeartbeats 8000000 in
theorem plist2_c (g mb : Nat) (t : ByteArray) (a b : Nd) (i j : Int) (B : Nat) (da db : Option Addr) (ca cb : Nat) (L : List Lx.T) (v : Value) (w : World) (ht : t ≠ Ps.e0) (Ha : NodeC g mb a) (Hb : NodeC g mb b) (h : PrS g mb L v w)
  (hB : Blk w B opT (opC a (.slice da a.kids.length ca) i ++ opC b (.slice db b.kids.length cb) j).toArray) (hg : B ≠ g) (hv : v.ownBlock ≠ some B)
  (ka : KidsD (fun k => k < mb) w (.slice da a.kids.length ca) a.kids) (kb : KidsD (fun k => k < mb) w (.slice db b.kids.length cb) b.kids)
  (hn : (L ++ at1 i (kdM a) ++ [sgn t] ++ at1 j (kdM b)).length ≤ 1000000000) :
  Calls Tryz.prog 129 #[.pointer (some ⟨g, 0, none⟩), .slice (some ⟨B, 0, none⟩) 2 2, .string t, .func (.func 128) #[] #[]] w (PrPost g mb (L ++ at1 i (kdM a) ++ [sgn t] ++ at1 j (kdM b)) v w) := by
 have eg : ∀ args w, (callFunc 128 args).run Tryz.prog w = .ok (.enter 128 args) w := enters_of Tryz.func128 (by kernel_rfl) rfl
 have HN := Lib.hid hn
 have HS := Lib.hid h
 have HKA := Lib.hid ka
 have HKB := Lib.hid kb
 have HCA := Lib.hid Ha
 have HCB := Lib.hid Hb
 have HBB := Lib.hid hB
 have HO := Lib.hid (And.intro hg hv)
 have hse : (t.toList == []) = false := lit_no ht
 clear h ka kb hn Ha Hb hB hg hv ht
 go_enter Tryz.func129, Tryz.ntmps129
 go_wp2_with fail
 go_loopw [13] (fun q wr => ∃ (k : Nat) (vk : Value), k ≤ 2 ∧ q = .int .i64 k ∧ Hid (PrS g mb (if k = 0 then L else if k = 1 then L ++ at1 i (kdM a) else L ++ at1 i (kdM a) ++ [sgn t] ++ at1 j (kdM b)) vk wr) ∧ Hid (PrR g v w vk wr)) (fun q wr => 2 - (intOf q).toNat)
 case atStart => exact ⟨0, v, Nat.zero_le _, rfl, Lib.hid HS.out, Lib.hid (PrR.refl _ _ _)⟩
 case round =>
  obtain ⟨k, vk, hk, rfl, HSk, HRk⟩ := hrel
  have hBk := HRk.out.blk HBB.out HO.out.1 HO.out.2
  by_cases k0 : k = 0
  ·subst k0
   have HSk := Lib.hid (show PrS g mb L vk wr from HSk.out)
   obtain ⟨d0, d1, d2, d3, d4, d5, d6⟩ : wr.cell? ⟨B, 0, none⟩ = some (.int .i64 a.kind) ∧ wr.cell? ⟨B, 1, none⟩ = some (.string a.text) ∧ wr.cell? ⟨B, 2, none⟩ = some (.string a.typ) ∧ wr.cell? ⟨B, 3, none⟩ = some (.string a.frm) ∧ wr.cell? ⟨B, 4, none⟩ = some (.int .i64 a.n) ∧ wr.cell? ⟨B, 5, none⟩ = some (.slice da a.kids.length ca) ∧ wr.cell? ⟨B, 6, none⟩ = some (.int .i64 i) := ⟨hBk.cell 0, hBk.cell 1, hBk.cell 2, hBk.cell 3, hBk.cell 4, hBk.cell 5, hBk.cell 6⟩
   obtain ⟨W1, hW1⟩ : ∃ W, wr.alloc (.cells #[.int .i64 a.kind, .string a.text, .string a.typ, .string a.frm, .int .i64 a.n, .slice da a.kids.length ca, .int .i64 i] 141) = W := ⟨_, rfl⟩
   have k1 : Kept wr W1 := by rw [← hW1]; exact (Kept.refl _).alloc _
   have b1 : Blk W1 wr.heap.size 141 #[.int .i64 a.kind, .string a.text, .string a.typ, .string a.frm, .int .i64 a.n, .slice da a.kids.length ca, .int .i64 i] := by rw [← hW1]; exact Blk.new _ _ _
   have HW1 := Lib.hid hW1
   have HX := Lib.hid (poper_c g mb a i da ca _ _ W1 HCA.out (HSk.out.kept k1) (KidsD.kept (HRk.out.kids HS.out HKA.out) k1) (by have := HN.out; simp only [List.length_append, List.length_cons, List.length_nil] at this ⊢; omega))
   have HR1 := Lib.hid (HRk.out.trans (PrR.of_kept k1 vk))
   have x0 := b1.cell 0
   have x1 := b1.cell 1
   have x2 := b1.cell 2
   have x3 := b1.cell 3
   have x4 := b1.cell 4
   have x5 := b1.cell 5
   have x6 := b1.cell 6
   clear k1 b1 hW1 hBk hk
   go_wp2_with (rw [HW1.out])
   refine HX.out.mono ?_
   rintro e w5 ⟨rfl, v5, h5, r5⟩
   have HF := Lib.hid (And.intro h5 (HR1.out.trans r5))
   clear h5 r5 HX x0 x1 x2 x3 x4 x5 x6 d0 d1 d2 d3 d4 d5 d6
   go_wp2_with fail
   go_roundw
   case rel => exact ⟨1, v5, by omega, rfl, Lib.hid HF.out.1, Lib.hid HF.out.2⟩
   case measure => simp [intOf]
  ·by_cases k1 : k = 1
   ·subst k1
    have HSk := Lib.hid (show PrS g mb (L ++ at1 i (kdM a)) vk wr from HSk.out)
    obtain ⟨d0, d1, d2, d3, d4, d5, d6⟩ : wr.cell? ⟨B, 7, none⟩ = some (.int .i64 b.kind) ∧ wr.cell? ⟨B, 8, none⟩ = some (.string b.text) ∧ wr.cell? ⟨B, 9, none⟩ = some (.string b.typ) ∧ wr.cell? ⟨B, 10, none⟩ = some (.string b.frm) ∧ wr.cell? ⟨B, 11, none⟩ = some (.int .i64 b.n) ∧ wr.cell? ⟨B, 12, none⟩ = some (.slice db b.kids.length cb) ∧ wr.cell? ⟨B, 13, none⟩ = some (.int .i64 j) := ⟨hBk.cell 7, hBk.cell 8, hBk.cell 9, hBk.cell 10, hBk.cell 11, hBk.cell 12, hBk.cell 13⟩
    obtain ⟨W1, hW1⟩ : ∃ W, wr.alloc (.cells #[.int .i64 b.kind, .string b.text, .string b.typ, .string b.frm, .int .i64 b.n, .slice db b.kids.length cb, .int .i64 j] 141) = W := ⟨_, rfl⟩
    have k1 : Kept wr W1 := by rw [← hW1]; exact (Kept.refl _).alloc _
    have b1 : Blk W1 wr.heap.size 141 #[.int .i64 b.kind, .string b.text, .string b.typ, .string b.frm, .int .i64 b.n, .slice db b.kids.length cb, .int .i64 j] := by rw [← hW1]; exact Blk.new _ _ _
    have HW1 := Lib.hid hW1
    have HO1 := Lib.hid (show wr.heap.size ≠ g ∧ vk.ownBlock ≠ some wr.heap.size from ⟨by have := HSk.out.blk.lt; omega, fun e => by have := (HSk.out.own e).2; omega⟩)
    have HS1 := Lib.hid (HSk.out.kept k1)
    have HX := Lib.hid (psign_c t HS1.out (by have := HN.out; simp only [List.length_append, List.length_cons, List.length_nil] at this ⊢; omega))
    have HR1 := Lib.hid (HRk.out.trans (PrR.of_kept k1 vk))
    have HB1 := Lib.hid b1
    have x0 := b1.cell 0
    have x1 := b1.cell 1
    have x2 := b1.cell 2
    have x3 := b1.cell 3
    have x4 := b1.cell 4
    have x5 := b1.cell 5
    have x6 := b1.cell 6
    clear k1 b1 hW1 hBk hk
    go_wp2_with (rw [HW1.out])
    refine HX.out.mono ?_
    rintro e w4 ⟨rfl, v4, h4, r4⟩
    have HR4 := Lib.hid (HR1.out.trans r4)
    have b4 := r4.blk HB1.out HO1.out.1 HO1.out.2
    have HX4 := Lib.hid (poper_c g mb b j db cb _ _ w4 HCB.out h4 (HR4.out.kids HS.out HKB.out) (by have := HN.out; simp only [List.length_append, List.length_cons, List.length_nil] at this ⊢; omega))
    clear x0 x1 x2 x3 x4 x5 x6 h4 r4 HX
    have x0 := b4.cell 0
    have x1 := b4.cell 1
    have x2 := b4.cell 2
    have x3 := b4.cell 3
    have x4 := b4.cell 4
    have x5 := b4.cell 5
    have x6 := b4.cell 6
    clear b4
    go_wp2_with fail
    refine HX4.out.mono ?_
    rintro e w5 ⟨rfl, v5, h5, r5⟩
    have HF := Lib.hid (And.intro h5 (HR4.out.trans r5))
    clear h5 r5 HX4 x0 x1 x2 x3 x4 x5 x6 d0 d1 d2 d3 d4 d5 d6
    go_wp2_with fail
    go_roundw
    case rel => exact ⟨2, v5, by omega, rfl, Lib.hid HF.out.1, Lib.hid HF.out.2⟩
    case measure => simp [intOf]
   ·obtain rfl : k = 2 := by omega
    have HSk := Lib.hid (show PrS g mb (L ++ at1 i (kdM a) ++ [sgn t] ++ at1 j (kdM b)) vk wr from HSk.out)
    clear k0 k1 hk hBk
    go_wp2_with fail
    go_ret
    exact ⟨rfl, vk, HSk.out, HRk.out⟩
set_option maxHeartbeats 8000000 in
theorem pm_operation (g mb : Nat) (t y f : ByteArray) (n : Int) (a b : Nd) (L : List Lx.T) (v : Value) (w : World) (ad : Option Addr) (ck : Nat) (ht : t ≠ Ps.e0) (Ha : NodeC g mb a) (Hb : NodeC g mb b) (h : PrS g mb L v w) (hk : KidsD (fun k => k < mb) w (.slice ad 2 ck) [a, b])
  (hn : L.length + (Pr.form 25 t y n ([a, b].map kdM)).length ≤ 1000000000) :
  Calls Tryz.prog 82 #[.pointer (some ⟨g, 0, none⟩), .agg #[.int .i64 25, .string t, .string y, .string f, .int .i64 n, .slice ad 2 ck]] w (PrPost g mb (L ++ Pr.form 25 t y n ([a, b].map kdM)) v w) := by
 have HE := Lib.hid (show L ++ Pr.form 25 t y n ([a, b].map kdM) = L ++ at1 (Pr.opLv t) (kdM a) ++ [sgn t] ++ at1 (Pr.opLv t + 1) (kdM b) from by
  show L ++ (at1 (Pr.opLv t) (kdM a) ++ sgn t :: at1 (Pr.opLv t + 1) (kdM b)) = _
  simp only [List.append_assoc, List.cons_append, List.nil_append, List.append_nil])
 have HN := Lib.hid (show (L ++ at1 (Pr.opLv t) (kdM a) ++ [sgn t] ++ at1 (Pr.opLv t + 1) (kdM b)).length ≤ 1000000000 by rw [← HE.out, List.length_append]; exact hn)
 have hcap : 2 ≤ ck ∧ ck ≤ maxLen := by
  obtain ⟨a', c', e, h1, h2, _⟩ := hk
  injection e with e1 e2 e3
  subst e1 e3
  exact ⟨h1, h2⟩
 unfold maxLen at hcap
 obtain ⟨W1, hW1⟩ : ∃ W, w.alloc (.cells #[.int .i64 25, .string t, .string y, .string f, .int .i64 n, .slice ad 2 ck] 24) = W := ⟨_, rfl⟩
 have k1 : Kept w W1 := by rw [← hW1]; exact (Kept.refl _).alloc _
 have b1 : Blk W1 w.heap.size 24 #[.int .i64 25, .string t, .string y, .string f, .int .i64 n, .slice ad 2 ck] := by rw [← hW1]; exact Blk.new _ _ _
 obtain ⟨kb, ko, ead, hD⟩ := nd_base (KidsD.kept hk k1) (i := 0) (y := a) rfl
 subst ead
 have HLV := Lib.hid (level_cP (.mk 25 t y f n []) (.slice (some ⟨kb, ko, none⟩) 2 ck) W1)
 have HLV := Lib.hid (show Calls Tryz.prog 14 #[.agg #[.int .i64 25, .string t, .string y, .string f, .int .i64 n, .slice (some ⟨kb, ko, none⟩) 2 ck]] W1 fun e w' => e = .returned (.int .i64 (Pr.opLv t)) ∧ Kept W1 w' from HLV.out)
 have hlv : 1 ≤ Pr.opLv t ∧ Pr.opLv t ≤ 6 := by refine ⟨?_, ?_⟩ <;> (unfold Pr.opLv; repeat' split) <;> decide
 have HS1 := Lib.hid (h.kept k1)
 have HK1 := Lib.hid k1
 have HD1 := Lib.hid (KidsD.kept hk k1)
 have HB1 := Lib.hid b1
 have HW1 := Lib.hid hW1
 have HCa := Lib.hid Ha
 have HCb := Lib.hid Hb
 have HTT := Lib.hid ht
 obtain ⟨kda, kka, ⟨ca0, ca1, ca2, ca3, ca4, ca5⟩, hka⟩ := nd_at HD1.out (i := 0) (y := a) rfl
 obtain ⟨kdb, kkb, ⟨cb0, cb1, cb2, cb3, cb4, cb5⟩, hkb⟩ := nd_at HD1.out (i := 1) (y := b) rfl
 simp only [Nat.zero_mul, Nat.add_zero, Nat.one_mul, Nat.reduceMul, Nat.add_assoc, Nat.reduceAdd] at ca0 ca1 ca2 ca3 ca4 ca5 cb0 cb1 cb2 cb3 cb4 cb5
 have HKa := Lib.hid hka
 have HKb := Lib.hid hkb
 obtain ⟨⟨y0, y1, y2, y3, y4, y5⟩, f0, f1, f2, f3, f4, f5⟩ := nd_six b1
 clear h hk hn k1 b1 hW1 Ha Hb ht hka hkb
 generalize Pr.opLv t = lv at *
 obtain ⟨hlv1, hlv2⟩ := hlv
 go_enter Tryz.func82, Tryz.ntmps82
 go_wp2_with (rw [HW1.out])
 refine HLV.out.mono ?_
 rintro e w2 ⟨rfl, k2⟩
 have HK2 := Lib.hid k2
 have HB2 := Lib.hid (HB1.out.kept k2)
 clear k2 y0 y1 y2 y3 y4 y5 f0 f1 f2 f3 f4 f5
 go_wp2_with fail
 refine wp_region_held_drew (S := (fun W => W.cell? ⟨w.heap.size, 5, none⟩ = some (.slice (some ⟨kb, ko, none⟩) 2 ck) ∧ W.cell? ⟨kb, ko, none⟩ = some (.int .i64 a.kind) ∧ W.cell? ⟨kb, ko + 1, none⟩ = some (.string a.text) ∧ W.cell? ⟨kb, ko + 2, none⟩ = some (.string a.typ) ∧ W.cell? ⟨kb, ko + 3, none⟩ = some (.string a.frm) ∧ W.cell? ⟨kb, ko + 4, none⟩ = some (.int .i64 a.n) ∧ W.cell? ⟨kb, ko + 5, none⟩ = some (.slice kda a.kids.length kka) ∧ W.cell? ⟨kb, ko + 6, none⟩ = some (.int .i64 b.kind) ∧ W.cell? ⟨kb, ko + 7, none⟩ = some (.string b.text) ∧ W.cell? ⟨kb, ko + 8, none⟩ = some (.string b.typ) ∧ W.cell? ⟨kb, ko + 9, none⟩ = some (.string b.frm) ∧ W.cell? ⟨kb, ko + 10, none⟩ = some (.int .i64 b.n) ∧ W.cell? ⟨kb, ko + 11, none⟩ = some (.slice kdb b.kids.length kkb))) (by kernel_rfl) ⟨HB2.out.drew.cell 5, HK2.out.drew.cell ca0, HK2.out.drew.cell ca1, HK2.out.drew.cell ca2, HK2.out.drew.cell ca3, HK2.out.drew.cell ca4, HK2.out.drew.cell ca5, HK2.out.drew.cell cb0, HK2.out.drew.cell cb1, HK2.out.drew.cell cb2, HK2.out.drew.cell cb3, HK2.out.drew.cell cb4, HK2.out.drew.cell cb5⟩ (fun hHeld0 => ?_)
 refine wpAnyH_take (i := 0) (v := ?_) rfl (by kernel_rfl) (by kernel_rfl) (by kernel_rfl) (fun _ _ _ h => h) (Or.inl ⟨by kernel_rfl, ?_⟩) (by assumption) ?_
 rotate_left
 ·intro w hSw; (try dsimp only at hSw); go_simp; (try with_reducible rfl)
 (try simp only [Act.put, List.getElem_toArray, List.getElem_cons_zero, List.getElem_cons_succ, List.setIfInBounds_toArray, List.set_cons_zero, List.set_cons_succ])
 refine wpAnyH_take (i := 1) (v := ?_) rfl (by kernel_rfl) (by kernel_rfl) (by kernel_rfl) (fun _ _ _ h => h) (Or.inl ⟨by kernel_rfl, ?_⟩) (by assumption) ?_
 rotate_left
 ·intro w hSw; (try dsimp only at hSw); go_simp; (try with_reducible rfl)
 (try simp only [Act.put, List.getElem_toArray, List.getElem_cons_zero, List.getElem_cons_succ, List.setIfInBounds_toArray, List.set_cons_zero, List.set_cons_succ])
 refine wpAnyH_take (i := 2) (v := ?_) rfl (by kernel_rfl) (by kernel_rfl) (by kernel_rfl) (fun _ _ _ h => h) (Or.inl ⟨by kernel_rfl, ?_⟩) (by assumption) ?_
 rotate_left
 ·intro w hSw; (try dsimp only at hSw); go_simp; (try with_reducible rfl)
 (try simp only [Act.put, List.getElem_toArray, List.getElem_cons_zero, List.getElem_cons_succ, List.setIfInBounds_toArray, List.set_cons_zero, List.set_cons_succ])
 refine wpAnyH_take (i := 3) (v := ?_) rfl (by kernel_rfl) (by kernel_rfl) (by kernel_rfl) (fun _ _ _ h => h) (Or.inl ⟨by kernel_rfl, ?_⟩) (by assumption) ?_
 rotate_left
 ·intro w hSw; (try dsimp only at hSw); go_simp; (try with_reducible rfl)
 (try simp only [Act.put, List.getElem_toArray, List.getElem_cons_zero, List.getElem_cons_succ, List.setIfInBounds_toArray, List.set_cons_zero, List.set_cons_succ])
 refine wpAnyH_take (i := 4) (v := ?_) rfl (by kernel_rfl) (by kernel_rfl) (by kernel_rfl) (fun _ _ _ h => h) (Or.inl ⟨by kernel_rfl, ?_⟩) (by assumption) ?_
 rotate_left
 ·intro w hSw; (try dsimp only at hSw); go_simp; (try with_reducible rfl)
 (try simp only [Act.put, List.getElem_toArray, List.getElem_cons_zero, List.getElem_cons_succ, List.setIfInBounds_toArray, List.set_cons_zero, List.set_cons_succ])
 refine wpAnyH_take (i := 5) (v := ?_) rfl (by kernel_rfl) (by kernel_rfl) (by kernel_rfl) (fun _ _ _ h => h) (Or.inl ⟨by kernel_rfl, ?_⟩) (by assumption) ?_
 rotate_left
 ·intro w hSw; (try dsimp only at hSw); go_simp; (try with_reducible rfl)
 (try simp only [Act.put, List.getElem_toArray, List.getElem_cons_zero, List.getElem_cons_succ, List.setIfInBounds_toArray, List.set_cons_zero, List.set_cons_succ])
 refine wpAnyH_take (i := 6) (v := ?_) rfl (by kernel_rfl) (by kernel_rfl) (by kernel_rfl) (fun _ _ _ h => h) (Or.inl ⟨by kernel_rfl, ?_⟩) (by assumption) ?_
 rotate_left
 ·intro w hSw; (try dsimp only at hSw); go_simp; (try with_reducible rfl)
 (try simp only [Act.put, List.getElem_toArray, List.getElem_cons_zero, List.getElem_cons_succ, List.setIfInBounds_toArray, List.set_cons_zero, List.set_cons_succ])
 refine wpAnyH_take (i := 7) (v := ?_) rfl (by kernel_rfl) (by kernel_rfl) (by kernel_rfl) (fun _ _ _ h => h) (Or.inl ⟨by kernel_rfl, ?_⟩) (by assumption) ?_
 rotate_left
 ·intro w hSw; (try dsimp only at hSw); go_simp; (try with_reducible rfl)
 (try simp only [Act.put, List.getElem_toArray, List.getElem_cons_zero, List.getElem_cons_succ, List.setIfInBounds_toArray, List.set_cons_zero, List.set_cons_succ])
 refine wpAnyH_take (i := 8) (v := ?_) rfl (by kernel_rfl) (by kernel_rfl) (by kernel_rfl) (fun _ _ _ h => h) (Or.inl ⟨by kernel_rfl, ?_⟩) (by assumption) ?_
 rotate_left
 ·intro w hSw; (try dsimp only at hSw); go_simp; (try with_reducible rfl)
 (try simp only [Act.put, List.getElem_toArray, List.getElem_cons_zero, List.getElem_cons_succ, List.setIfInBounds_toArray, List.set_cons_zero, List.set_cons_succ])
 refine wpAnyH_take (i := 9) (v := ?_) rfl (by kernel_rfl) (by kernel_rfl) (by kernel_rfl) (fun _ _ _ h => h) (Or.inl ⟨by kernel_rfl, ?_⟩) (by assumption) ?_
 rotate_left
 ·intro w hSw; (try dsimp only at hSw); go_simp; (try with_reducible rfl)
 (try simp only [Act.put, List.getElem_toArray, List.getElem_cons_zero, List.getElem_cons_succ, List.setIfInBounds_toArray, List.set_cons_zero, List.set_cons_succ])
 refine wpAnyH_take (i := 10) (v := ?_) rfl (by kernel_rfl) (by kernel_rfl) (by kernel_rfl) (fun _ _ _ h => h) (Or.inl ⟨by kernel_rfl, ?_⟩) (by assumption) ?_
 rotate_left
 ·intro w hSw; (try dsimp only at hSw); go_simp; (try with_reducible rfl)
 (try simp only [Act.put, List.getElem_toArray, List.getElem_cons_zero, List.getElem_cons_succ, List.setIfInBounds_toArray, List.set_cons_zero, List.set_cons_succ])
 refine wpAnyH_take (i := 11) (v := ?_) rfl (by kernel_rfl) (by kernel_rfl) (by kernel_rfl) (fun _ _ _ h => h) (Or.inl ⟨by kernel_rfl, ?_⟩) (by assumption) ?_
 rotate_left
 ·intro w hSw; (try dsimp only at hSw); go_simp; (try with_reducible rfl)
 (try simp only [Act.put, List.getElem_toArray, List.getElem_cons_zero, List.getElem_cons_succ, List.setIfInBounds_toArray, List.set_cons_zero, List.set_cons_succ])
 refine wpAnyH_take (i := 12) (v := ?_) rfl (by kernel_rfl) (by kernel_rfl) (by kernel_rfl) (fun _ _ _ h => h) (Or.inl ⟨by kernel_rfl, ?_⟩) (by assumption) ?_
 rotate_left
 ·intro w hSw; (try dsimp only at hSw); go_simp; (try with_reducible rfl)
 (try simp only [Act.put, List.getElem_toArray, List.getElem_cons_zero, List.getElem_cons_succ, List.setIfInBounds_toArray, List.set_cons_zero, List.set_cons_succ])
 refine wpAnyH_ready (rs := [13]) (by kernel_rfl) (by simp) ?_
 refine AllReadyH.cons rfl (fun K hK => ?_) AllReadyH.nil
 go_simp
 obtain ⟨W3, hW3⟩ : ∃ W, (w2.alloc (.cells #[.int .i64 a.kind, .string a.text, .string a.typ, .string a.frm, .int .i64 a.n, .slice kda a.kids.length kka, .int .i64 lv, .int .i64 b.kind, .string b.text, .string b.typ, .string b.frm, .int .i64 b.n, .slice kdb b.kids.length kkb, .int .i64 (lv + 1)] 141)).drew = W := ⟨_, rfl⟩
 have k3 : Kept w2 W3 := by rw [← hW3]; exact ((Kept.refl _).alloc _).drew
 have b3 : Blk W3 w2.heap.size opT (opC a (.slice kda a.kids.length kka) lv ++ opC b (.slice kdb b.kids.length kkb) (lv + 1)).toArray := by rw [← hW3]; exact (Blk.new _ _ _).drew
 have HK3 := Lib.hid (HK2.out.trans k3)
 have HB3 := Lib.hid b3
 have hwr : IntKind.i64.wrap (lv + 1) = lv + 1 := by rw [IntKind.wrap_i64]; omega
 simp only [hwr]
 rw [hW3]
 refine hK.out _ _ ⟨(HB2.out.kept k3).cell 5, HK3.out.cell ca0, HK3.out.cell ca1, HK3.out.cell ca2, HK3.out.cell ca3, HK3.out.cell ca4, HK3.out.cell ca5, HK3.out.cell cb0, HK3.out.cell cb1, HK3.out.cell cb2, HK3.out.cell cb3, HK3.out.cell cb4, HK3.out.cell cb5⟩ (fun hHeld1 => ?_)
 clear hK K
 (try simp only [Act.put, List.getElem_toArray, List.getElem_cons_zero, List.getElem_cons_succ, List.setIfInBounds_toArray, List.set_cons_zero, List.set_cons_succ])
 clear hHeld0
 refine wpAnyH_take (i := 14) (v := ?_) rfl (by kernel_rfl) (by kernel_rfl) (by kernel_rfl) (fun _ _ _ h => h) (Or.inl ⟨by kernel_rfl, ?_⟩) (by assumption) ?_
 rotate_left
 ·intro w hSw; (try dsimp only at hSw); go_simp; (try with_reducible rfl)
 (try simp only [Act.put, List.getElem_toArray, List.getElem_cons_zero, List.getElem_cons_succ, List.setIfInBounds_toArray, List.set_cons_zero, List.set_cons_succ])
 refine wpAnyH_done (by kernel_rfl) ?_ _
 clear hHeld1
 have HS3 := Lib.hid (HS1.out.kept HK3.out)
 have y1 := (HB1.out.kept HK3.out).cell 1
 have HX := Lib.hid (plist2_c g mb t a b lv (lv + 1) w2.heap.size kda kdb kka kkb L v W3 HTT.out HCa.out HCb.out HS3.out HB3.out (by have := HS1.out.blk.lt; have := HK2.out.size; omega) (fun e => by have := (HS1.out.own e).2; have := HK2.out.size; omega) (KidsD.kept HKa.out HK3.out) (KidsD.kept HKb.out HK3.out) HN.out)
 have HR3 := Lib.hid (PrR.of_kept (g := g) (HK1.out.trans HK3.out) v)
 clear k3 b3 hW3 ca0 ca1 ca2 ca3 ca4 ca5 cb0 cb1 cb2 cb3 cb4 cb5
 go_wp2_with fail
 refine HX.out.mono ?_
 rintro e w4 ⟨rfl, v4, h4, r4⟩
 have HF := Lib.hid (And.intro h4 (HR3.out.trans r4))
 clear h4 r4
 go_wp2_with fail
 go_ret
 exact ⟨rfl, v4, by rw [HE.out]; exact HF.out.1, HF.out.2⟩
end Go.Proofs.YtfpklgffdniegaaGreatDoor
namespace Go.Proofs.YtfpklgffdniegaaGreatDoor
open Go.ChangeShapes Go.WideShapes Go.ChangeAt Go.RowKit
attribute [local go_sem] Oper.semAt_some
open Pr (key sgn nam tk toks typT ann sep brk at1)
theorem kids_nil {D : Nat → Prop} (w : World) (a : Option Addr) : KidsD D w (.slice a 0 0) [] := ⟨a, 0, rfl, Nat.le_refl _, Nat.zero_le _, fun i x hx => by simp at hx⟩
set_option maxHeartbeats 4000000 in
theorem pm_call1 (g mb : Nat) (t y f : ByteArray) (n : Int) (a : Nd) (L : List Lx.T) (v : Value) (w : World) (ad : Option Addr) (Ha : NodeC g mb a) (h : PrS g mb L v w) (hk : KidsD (fun k => k < mb) w (.slice ad 1 1) [a])
  (hn : L.length + (Pr.form 19 t y n ([a].map kdM)).length ≤ 1000000000) :
  Calls Tryz.prog 76 #[.pointer (some ⟨g, 0, none⟩), .agg #[.int .i64 19, .string t, .string y, .string f, .int .i64 n, .slice ad 1 1]] w (PrPost g mb (L ++ Pr.form 19 t y n ([a].map kdM)) v w) := by
 have HCa := Lib.hid Ha
 have HE := Lib.hid (show L ++ Pr.form 19 t y n ([a].map kdM) = L ++ (at1 8 (kdM a) ++ [sgn Ps.kDot]) ++ [nam t] ++ brk (([] : List Nd).map kdM) from by
  show L ++ (at1 8 (kdM a) ++ sgn Ps.kDot :: nam t :: brk (([] : List Nd).map kdM)) = _
  first | rfl | (simp only [List.append_assoc, List.cons_append, List.nil_append, List.append_nil]; done) | (simp only [List.append_assoc, List.cons_append, List.nil_append, List.append_nil]; rfl))
 have HN := Lib.hid (show (L ++ (at1 8 (kdM a) ++ [sgn Ps.kDot]) ++ [nam t] ++ brk (([] : List Nd).map kdM)).length ≤ 1000000000 by rw [← HE.out, List.length_append]; exact hn)
 obtain ⟨W1, HW1, HK1, HB1, HO, HS1, HD1, HR1, hcap, y0, y1, y2, y3, y4, y5⟩ := pm_prep 19 t y f n h hk (by simp)
 unfold maxLen at hcap
 obtain ⟨kb, ko, ead, hD⟩ := nd_base HD1.out (i := 0) (y := a) rfl
 subst ead
 obtain ⟨kda, kka, ⟨ca0, ca1, ca2, ca3, ca4, ca5⟩, hka⟩ := nd_at HD1.out (i := 0) (y := a) rfl
 simp only [Nat.zero_mul, Nat.add_zero, Nat.one_mul, Nat.reduceMul, Nat.add_assoc, Nat.reduceAdd] at ca0 ca1 ca2 ca3 ca4 ca5
 have HKa := Lib.hid hka
 clear hka
 clear h hk hn Ha
 go_enter Tryz.func76, Tryz.ntmps76
 go_wp2_with (rw [HW1.out])
 refine wp_region_held_drew (S := (fun W => W.cell? ⟨w.heap.size, 0, none⟩ = some (.int .i64 19) ∧ W.cell? ⟨w.heap.size, 1, none⟩ = some (.string t) ∧ W.cell? ⟨w.heap.size, 2, none⟩ = some (.string y) ∧ W.cell? ⟨w.heap.size, 3, none⟩ = some (.string f) ∧ W.cell? ⟨w.heap.size, 4, none⟩ = some (.int .i64 n) ∧ W.cell? ⟨w.heap.size, 5, none⟩ = some (.slice (some ⟨kb, ko, none⟩) 1 1) ∧ W.cell? ⟨kb, ko, none⟩ = some (.int .i64 a.kind) ∧ W.cell? ⟨kb, ko + 1, none⟩ = some (.string a.text) ∧ W.cell? ⟨kb, ko + 2, none⟩ = some (.string a.typ) ∧ W.cell? ⟨kb, ko + 3, none⟩ = some (.string a.frm) ∧ W.cell? ⟨kb, ko + 4, none⟩ = some (.int .i64 a.n) ∧ W.cell? ⟨kb, ko + 5, none⟩ = some (.slice kda a.kids.length kka))) (by kernel_rfl) ⟨((Lib.hid (HR1.out.trans (PrR.of_kept (Kept.refl _).drew _))).out.blk HB1.out HO.out.1 HO.out.2).cell 0, ((Lib.hid (HR1.out.trans (PrR.of_kept (Kept.refl _).drew _))).out.blk HB1.out HO.out.1 HO.out.2).cell 1, ((Lib.hid (HR1.out.trans (PrR.of_kept (Kept.refl _).drew _))).out.blk HB1.out HO.out.1 HO.out.2).cell 2, ((Lib.hid (HR1.out.trans (PrR.of_kept (Kept.refl _).drew _))).out.blk HB1.out HO.out.1 HO.out.2).cell 3, ((Lib.hid (HR1.out.trans (PrR.of_kept (Kept.refl _).drew _))).out.blk HB1.out HO.out.1 HO.out.2).cell 4, ((Lib.hid (HR1.out.trans (PrR.of_kept (Kept.refl _).drew _))).out.blk HB1.out HO.out.1 HO.out.2).cell 5, (Lib.hid (HR1.out.trans (PrR.of_kept (Kept.refl _).drew _))).out.low1 HS1.out hD ca0, (Lib.hid (HR1.out.trans (PrR.of_kept (Kept.refl _).drew _))).out.low1 HS1.out hD ca1, (Lib.hid (HR1.out.trans (PrR.of_kept (Kept.refl _).drew _))).out.low1 HS1.out hD ca2, (Lib.hid (HR1.out.trans (PrR.of_kept (Kept.refl _).drew _))).out.low1 HS1.out hD ca3, (Lib.hid (HR1.out.trans (PrR.of_kept (Kept.refl _).drew _))).out.low1 HS1.out hD ca4, (Lib.hid (HR1.out.trans (PrR.of_kept (Kept.refl _).drew _))).out.low1 HS1.out hD ca5⟩ (fun hHeld0 => ?_)
 refine wpAnyH_take (i := 0) (v := ?_) rfl (by kernel_rfl) (by kernel_rfl) (by kernel_rfl) (fun _ _ _ h => h) (Or.inl ⟨by kernel_rfl, ?_⟩) (by assumption) ?_
 rotate_left
 ·intro w hSw; (try dsimp only at hSw); go_simp; (try with_reducible rfl)
 (try simp only [Act.put, List.getElem_toArray, List.getElem_cons_zero, List.getElem_cons_succ, List.setIfInBounds_toArray, List.set_cons_zero, List.set_cons_succ])
 refine wpAnyH_take (i := 1) (v := ?_) rfl (by kernel_rfl) (by kernel_rfl) (by kernel_rfl) (fun _ _ _ h => h) (Or.inl ⟨by kernel_rfl, ?_⟩) (by assumption) ?_
 rotate_left
 ·intro w hSw; (try dsimp only at hSw); go_simp; (try with_reducible rfl)
 (try simp only [Act.put, List.getElem_toArray, List.getElem_cons_zero, List.getElem_cons_succ, List.setIfInBounds_toArray, List.set_cons_zero, List.set_cons_succ])
 refine wpAnyH_take (i := 2) (v := ?_) rfl (by kernel_rfl) (by kernel_rfl) (by kernel_rfl) (fun _ _ _ h => h) (Or.inl ⟨by kernel_rfl, ?_⟩) (by assumption) ?_
 rotate_left
 ·intro w hSw; (try dsimp only at hSw); go_simp; (try with_reducible rfl)
 (try simp only [Act.put, List.getElem_toArray, List.getElem_cons_zero, List.getElem_cons_succ, List.setIfInBounds_toArray, List.set_cons_zero, List.set_cons_succ])
 refine wpAnyH_take (i := 3) (v := ?_) rfl (by kernel_rfl) (by kernel_rfl) (by kernel_rfl) (fun _ _ _ h => h) (Or.inl ⟨by kernel_rfl, ?_⟩) (by assumption) ?_
 rotate_left
 ·intro w hSw; (try dsimp only at hSw); go_simp; (try with_reducible rfl)
 (try simp only [Act.put, List.getElem_toArray, List.getElem_cons_zero, List.getElem_cons_succ, List.setIfInBounds_toArray, List.set_cons_zero, List.set_cons_succ])
 refine wpAnyH_take (i := 4) (v := ?_) rfl (by kernel_rfl) (by kernel_rfl) (by kernel_rfl) (fun _ _ _ h => h) (Or.inl ⟨by kernel_rfl, ?_⟩) (by assumption) ?_
 rotate_left
 ·intro w hSw; (try dsimp only at hSw); go_simp; (try with_reducible rfl)
 (try simp only [Act.put, List.getElem_toArray, List.getElem_cons_zero, List.getElem_cons_succ, List.setIfInBounds_toArray, List.set_cons_zero, List.set_cons_succ])
 refine wpAnyH_take (i := 6) (v := ?_) rfl (by kernel_rfl) (by kernel_rfl) (by kernel_rfl) (fun _ _ _ h => h) (Or.inl ⟨by kernel_rfl, ?_⟩) (by assumption) ?_
 rotate_left
 ·intro w hSw; (try dsimp only at hSw); go_simp; (try with_reducible rfl)
 (try simp only [Act.put, List.getElem_toArray, List.getElem_cons_zero, List.getElem_cons_succ, List.setIfInBounds_toArray, List.set_cons_zero, List.set_cons_succ])
 refine wpAnyH_take (i := 7) (v := ?_) rfl (by kernel_rfl) (by kernel_rfl) (by kernel_rfl) (fun _ _ _ h => h) (Or.inl ⟨by kernel_rfl, ?_⟩) (by assumption) ?_
 rotate_left
 ·intro w hSw; (try dsimp only at hSw); go_simp; (try with_reducible rfl)
 (try simp only [Act.put, List.getElem_toArray, List.getElem_cons_zero, List.getElem_cons_succ, List.setIfInBounds_toArray, List.set_cons_zero, List.set_cons_succ])
 refine wpAnyH_take (i := 9) (v := ?_) rfl (by kernel_rfl) (by kernel_rfl) (by kernel_rfl) (fun _ _ _ h => h) (Or.inl ⟨by kernel_rfl, ?_⟩) (by assumption) ?_
 rotate_left
 ·intro w hSw; (try dsimp only at hSw); go_simp; (try with_reducible rfl)
 (try simp only [Act.put, List.getElem_toArray, List.getElem_cons_zero, List.getElem_cons_succ, List.setIfInBounds_toArray, List.set_cons_zero, List.set_cons_succ])
 refine wpAnyH_take (i := 10) (v := ?_) rfl (by kernel_rfl) (by kernel_rfl) (by kernel_rfl) (fun _ _ _ h => h) (Or.inl ⟨by kernel_rfl, ?_⟩) (by assumption) ?_
 rotate_left
 ·intro w hSw; (try dsimp only at hSw); go_simp; (try with_reducible rfl)
 (try simp only [Act.put, List.getElem_toArray, List.getElem_cons_zero, List.getElem_cons_succ, List.setIfInBounds_toArray, List.set_cons_zero, List.set_cons_succ])
 refine wpAnyH_take (i := 11) (v := ?_) rfl (by kernel_rfl) (by kernel_rfl) (by kernel_rfl) (fun _ _ _ h => h) (Or.inl ⟨by kernel_rfl, ?_⟩) (by assumption) ?_
 rotate_left
 ·intro w hSw; (try dsimp only at hSw); go_simp; (try with_reducible rfl)
 (try simp only [Act.put, List.getElem_toArray, List.getElem_cons_zero, List.getElem_cons_succ, List.setIfInBounds_toArray, List.set_cons_zero, List.set_cons_succ])
 refine wpAnyH_ready (rs := [5]) (by kernel_rfl) (by simp) ?_
 refine AllReadyH.cons rfl (fun K hK => ?_) AllReadyH.nil
 go_simp
 refine (pof_c g mb _ kda kka _ _ _ HCa.out HS1.out.drew (KidsD.kept (HR1.out.kids HS1.out HKa.out) (Kept.refl _).drew) (by have := HN.out; simp only [List.length_append, List.length_cons, List.length_nil] at this ⊢; omega)).mono ?_
 rintro e w2 ⟨rfl, v2, hs, hr⟩
 have HR2 := Lib.hid ((HR1.out.trans (PrR.of_kept (Kept.refl _).drew _)).trans hr)
 have HS2 := Lib.hid hs
 clear hs hr
 refine hK.out _ _ ⟨(HR2.out.blk HB1.out HO.out.1 HO.out.2).cell 0, (HR2.out.blk HB1.out HO.out.1 HO.out.2).cell 1, (HR2.out.blk HB1.out HO.out.1 HO.out.2).cell 2, (HR2.out.blk HB1.out HO.out.1 HO.out.2).cell 3, (HR2.out.blk HB1.out HO.out.1 HO.out.2).cell 4, (HR2.out.blk HB1.out HO.out.1 HO.out.2).cell 5, HR2.out.low1 HS1.out hD ca0, HR2.out.low1 HS1.out hD ca1, HR2.out.low1 HS1.out hD ca2, HR2.out.low1 HS1.out hD ca3, HR2.out.low1 HS1.out hD ca4, HR2.out.low1 HS1.out hD ca5⟩ (fun hHeld1 => ?_)
 clear hK K
 (try simp only [Act.put, List.getElem_toArray, List.getElem_cons_zero, List.getElem_cons_succ, List.setIfInBounds_toArray, List.set_cons_zero, List.set_cons_succ])
 clear hHeld0
 refine wpAnyH_ready (rs := [8]) (by kernel_rfl) (by simp) ?_
 refine AllReadyH.cons rfl (fun K hK => ?_) AllReadyH.nil
 go_simp
 refine (pname_c t HS2.out (by have := HN.out; simp only [List.length_append, List.length_cons, List.length_nil] at this ⊢; omega)).mono ?_
 rintro e w3 ⟨rfl, v3, hs, hr⟩
 have HR3 := Lib.hid (HR2.out.trans hr)
 have HS3 := Lib.hid hs
 clear hs hr
 refine hK.out _ _ ⟨(HR3.out.blk HB1.out HO.out.1 HO.out.2).cell 0, (HR3.out.blk HB1.out HO.out.1 HO.out.2).cell 1, (HR3.out.blk HB1.out HO.out.1 HO.out.2).cell 2, (HR3.out.blk HB1.out HO.out.1 HO.out.2).cell 3, (HR3.out.blk HB1.out HO.out.1 HO.out.2).cell 4, (HR3.out.blk HB1.out HO.out.1 HO.out.2).cell 5, HR3.out.low1 HS1.out hD ca0, HR3.out.low1 HS1.out hD ca1, HR3.out.low1 HS1.out hD ca2, HR3.out.low1 HS1.out hD ca3, HR3.out.low1 HS1.out hD ca4, HR3.out.low1 HS1.out hD ca5⟩ (fun hHeld2 => ?_)
 clear hK K
 (try simp only [Act.put, List.getElem_toArray, List.getElem_cons_zero, List.getElem_cons_succ, List.setIfInBounds_toArray, List.set_cons_zero, List.set_cons_succ])
 clear hHeld1
 refine wpAnyH_ready (rs := [12]) (by kernel_rfl) (by simp) ?_
 refine AllReadyH.cons rfl (fun K hK => ?_) AllReadyH.nil
 go_simp
 refine (pbrackets_cP g mb [] (some ⟨kb, ko, none⟩) 0 _ _ _ (fun y hy => by cases hy) HS3.out (kids_nil _ _) (by have := HN.out; simp only [List.length_append, List.length_cons, List.length_nil] at this ⊢; omega)).mono ?_
 rintro e w4 ⟨rfl, v4, hs, hr⟩
 have HR4 := Lib.hid (HR3.out.trans hr)
 have HS4 := Lib.hid hs
 clear hs hr
 refine hK.out _ _ ⟨(HR4.out.blk HB1.out HO.out.1 HO.out.2).cell 0, (HR4.out.blk HB1.out HO.out.1 HO.out.2).cell 1, (HR4.out.blk HB1.out HO.out.1 HO.out.2).cell 2, (HR4.out.blk HB1.out HO.out.1 HO.out.2).cell 3, (HR4.out.blk HB1.out HO.out.1 HO.out.2).cell 4, (HR4.out.blk HB1.out HO.out.1 HO.out.2).cell 5, HR4.out.low1 HS1.out hD ca0, HR4.out.low1 HS1.out hD ca1, HR4.out.low1 HS1.out hD ca2, HR4.out.low1 HS1.out hD ca3, HR4.out.low1 HS1.out hD ca4, HR4.out.low1 HS1.out hD ca5⟩ (fun hHeld3 => ?_)
 clear hK K
 (try simp only [Act.put, List.getElem_toArray, List.getElem_cons_zero, List.getElem_cons_succ, List.setIfInBounds_toArray, List.set_cons_zero, List.set_cons_succ])
 clear hHeld2
 refine wpAnyH_take (i := 13) (v := ?_) rfl (by kernel_rfl) (by kernel_rfl) (by kernel_rfl) (fun _ _ _ h => h) (Or.inl ⟨by kernel_rfl, ?_⟩) (by assumption) ?_
 rotate_left
 ·intro w hSw; (try dsimp only at hSw); go_simp; (try with_reducible rfl)
 (try simp only [Act.put, List.getElem_toArray, List.getElem_cons_zero, List.getElem_cons_succ, List.setIfInBounds_toArray, List.set_cons_zero, List.set_cons_succ])
 refine wpAnyH_done (by kernel_rfl) ?_ _
 clear hHeld3
 go_wp2_with fail
 go_ret
 exact ⟨rfl, _, by rw [HE.out]; exact HS4.out, (PrR.of_kept HK1.out v).trans HR4.out⟩
set_option maxHeartbeats 4000000 in
theorem pm_call2 (g mb : Nat) (t y f : ByteArray) (n : Int) (a : Nd) (l : List Nd) (L : List Lx.T) (v : Value) (w : World) (ad : Option Addr) (ck : Nat) (Ha : NodeC g mb a) (Hl : ∀ y ∈ l, NodeC g mb y) (h : PrS g mb L v w) (hk : KidsD (fun k => k < mb) w (.slice ad (l.length + 1) ck) (a :: l))
  (hck : ¬ ck = 1) (hn : L.length + (Pr.form 19 t y n ((a :: l).map kdM)).length ≤ 1000000000) :
  Calls Tryz.prog 76 #[.pointer (some ⟨g, 0, none⟩), .agg #[.int .i64 19, .string t, .string y, .string f, .int .i64 n, .slice ad (l.length + 1) ck]] w (PrPost g mb (L ++ Pr.form 19 t y n ((a :: l).map kdM)) v w) := by
 have HCa := Lib.hid Ha
 have HCl := Lib.hid Hl
 have HE := Lib.hid (show L ++ Pr.form 19 t y n ((a :: l).map kdM) = L ++ (at1 8 (kdM a) ++ [sgn Ps.kDot]) ++ [nam t] ++ brk (l.map kdM) from by
  show L ++ (at1 8 (kdM a) ++ sgn Ps.kDot :: nam t :: brk (l.map kdM)) = _
  first | rfl | (simp only [List.append_assoc, List.cons_append, List.nil_append, List.append_nil]; done) | (simp only [List.append_assoc, List.cons_append, List.nil_append, List.append_nil]; rfl))
 have HN := Lib.hid (show (L ++ (at1 8 (kdM a) ++ [sgn Ps.kDot]) ++ [nam t] ++ brk (l.map kdM)).length ≤ 1000000000 by rw [← HE.out, List.length_append]; exact hn)
 obtain ⟨W1, HW1, HK1, HB1, HO, HS1, HD1, HR1, hcap, y0, y1, y2, y3, y4, y5⟩ := pm_prep 19 t y f n h hk (by simp)
 unfold maxLen at hcap
 obtain ⟨kb, ko, ead, hD⟩ := nd_base HD1.out (i := 0) (y := a) rfl
 subst ead
 obtain ⟨kda, kka, ⟨ca0, ca1, ca2, ca3, ca4, ca5⟩, hka⟩ := nd_at HD1.out (i := 0) (y := a) rfl
 simp only [Nat.zero_mul, Nat.add_zero, Nat.one_mul, Nat.reduceMul, Nat.add_assoc, Nat.reduceAdd] at ca0 ca1 ca2 ca3 ca4 ca5
 have HKa := Lib.hid hka
 clear hka
 clear h hk hn Ha Hl
 have hq1 : ¬ ck - 1 = 0 := by omega
 have hq2 : 1 ≤ ck := by omega
 have hq3 : 1 ≤ l.length + 1 := by omega
 have hq4 : (1 : Int) ≤ (l.length : Int) + 1 := by omega
 have HDt := Lib.hid (show KidsD (fun k => k < mb) W1 (.slice (some ⟨kb, ko + 6, none⟩) l.length (ck - 1)) l from by
  obtain ⟨b', o', e, _, _, _, _, h6⟩ := KidsD.head HD1.out
  injection e with e
  injection e with e1 e2
  subst e1 e2
  exact h6)
 go_enter Tryz.func76, Tryz.ntmps76
 go_wp2_with (rw [HW1.out])
 refine wp_region_held_drew (S := (fun W => W.cell? ⟨w.heap.size, 0, none⟩ = some (.int .i64 19) ∧ W.cell? ⟨w.heap.size, 1, none⟩ = some (.string t) ∧ W.cell? ⟨w.heap.size, 2, none⟩ = some (.string y) ∧ W.cell? ⟨w.heap.size, 3, none⟩ = some (.string f) ∧ W.cell? ⟨w.heap.size, 4, none⟩ = some (.int .i64 n) ∧ W.cell? ⟨w.heap.size, 5, none⟩ = some (.slice (some ⟨kb, ko, none⟩) (l.length + 1) ck) ∧ W.cell? ⟨kb, ko, none⟩ = some (.int .i64 a.kind) ∧ W.cell? ⟨kb, ko + 1, none⟩ = some (.string a.text) ∧ W.cell? ⟨kb, ko + 2, none⟩ = some (.string a.typ) ∧ W.cell? ⟨kb, ko + 3, none⟩ = some (.string a.frm) ∧ W.cell? ⟨kb, ko + 4, none⟩ = some (.int .i64 a.n) ∧ W.cell? ⟨kb, ko + 5, none⟩ = some (.slice kda a.kids.length kka))) (by kernel_rfl) ⟨((Lib.hid (HR1.out.trans (PrR.of_kept (Kept.refl _).drew _))).out.blk HB1.out HO.out.1 HO.out.2).cell 0, ((Lib.hid (HR1.out.trans (PrR.of_kept (Kept.refl _).drew _))).out.blk HB1.out HO.out.1 HO.out.2).cell 1, ((Lib.hid (HR1.out.trans (PrR.of_kept (Kept.refl _).drew _))).out.blk HB1.out HO.out.1 HO.out.2).cell 2, ((Lib.hid (HR1.out.trans (PrR.of_kept (Kept.refl _).drew _))).out.blk HB1.out HO.out.1 HO.out.2).cell 3, ((Lib.hid (HR1.out.trans (PrR.of_kept (Kept.refl _).drew _))).out.blk HB1.out HO.out.1 HO.out.2).cell 4, ((Lib.hid (HR1.out.trans (PrR.of_kept (Kept.refl _).drew _))).out.blk HB1.out HO.out.1 HO.out.2).cell 5, (Lib.hid (HR1.out.trans (PrR.of_kept (Kept.refl _).drew _))).out.low1 HS1.out hD ca0, (Lib.hid (HR1.out.trans (PrR.of_kept (Kept.refl _).drew _))).out.low1 HS1.out hD ca1, (Lib.hid (HR1.out.trans (PrR.of_kept (Kept.refl _).drew _))).out.low1 HS1.out hD ca2, (Lib.hid (HR1.out.trans (PrR.of_kept (Kept.refl _).drew _))).out.low1 HS1.out hD ca3, (Lib.hid (HR1.out.trans (PrR.of_kept (Kept.refl _).drew _))).out.low1 HS1.out hD ca4, (Lib.hid (HR1.out.trans (PrR.of_kept (Kept.refl _).drew _))).out.low1 HS1.out hD ca5⟩ (fun hHeld0 => ?_)
 refine wpAnyH_take (i := 0) (v := ?_) rfl (by kernel_rfl) (by kernel_rfl) (by kernel_rfl) (fun _ _ _ h => h) (Or.inl ⟨by kernel_rfl, ?_⟩) (by assumption) ?_
 rotate_left
 ·intro w hSw; (try dsimp only at hSw); go_simp; (try with_reducible rfl)
 (try simp only [Act.put, List.getElem_toArray, List.getElem_cons_zero, List.getElem_cons_succ, List.setIfInBounds_toArray, List.set_cons_zero, List.set_cons_succ])
 refine wpAnyH_take (i := 1) (v := ?_) rfl (by kernel_rfl) (by kernel_rfl) (by kernel_rfl) (fun _ _ _ h => h) (Or.inl ⟨by kernel_rfl, ?_⟩) (by assumption) ?_
 rotate_left
 ·intro w hSw; (try dsimp only at hSw); go_simp; (try with_reducible rfl)
 (try simp only [Act.put, List.getElem_toArray, List.getElem_cons_zero, List.getElem_cons_succ, List.setIfInBounds_toArray, List.set_cons_zero, List.set_cons_succ])
 refine wpAnyH_take (i := 2) (v := ?_) rfl (by kernel_rfl) (by kernel_rfl) (by kernel_rfl) (fun _ _ _ h => h) (Or.inl ⟨by kernel_rfl, ?_⟩) (by assumption) ?_
 rotate_left
 ·intro w hSw; (try dsimp only at hSw); go_simp; (try with_reducible rfl)
 (try simp only [Act.put, List.getElem_toArray, List.getElem_cons_zero, List.getElem_cons_succ, List.setIfInBounds_toArray, List.set_cons_zero, List.set_cons_succ])
 refine wpAnyH_take (i := 3) (v := ?_) rfl (by kernel_rfl) (by kernel_rfl) (by kernel_rfl) (fun _ _ _ h => h) (Or.inl ⟨by kernel_rfl, ?_⟩) (by assumption) ?_
 rotate_left
 ·intro w hSw; (try dsimp only at hSw); go_simp; (try with_reducible rfl)
 (try simp only [Act.put, List.getElem_toArray, List.getElem_cons_zero, List.getElem_cons_succ, List.setIfInBounds_toArray, List.set_cons_zero, List.set_cons_succ])
 refine wpAnyH_take (i := 4) (v := ?_) rfl (by kernel_rfl) (by kernel_rfl) (by kernel_rfl) (fun _ _ _ h => h) (Or.inl ⟨by kernel_rfl, ?_⟩) (by assumption) ?_
 rotate_left
 ·intro w hSw; (try dsimp only at hSw); go_simp; (try with_reducible rfl)
 (try simp only [Act.put, List.getElem_toArray, List.getElem_cons_zero, List.getElem_cons_succ, List.setIfInBounds_toArray, List.set_cons_zero, List.set_cons_succ])
 refine wpAnyH_take (i := 6) (v := ?_) rfl (by kernel_rfl) (by kernel_rfl) (by kernel_rfl) (fun _ _ _ h => h) (Or.inl ⟨by kernel_rfl, ?_⟩) (by assumption) ?_
 rotate_left
 ·intro w hSw; (try dsimp only at hSw); go_simp; (try with_reducible rfl)
 (try simp only [Act.put, List.getElem_toArray, List.getElem_cons_zero, List.getElem_cons_succ, List.setIfInBounds_toArray, List.set_cons_zero, List.set_cons_succ])
 refine wpAnyH_take (i := 7) (v := ?_) rfl (by kernel_rfl) (by kernel_rfl) (by kernel_rfl) (fun _ _ _ h => h) (Or.inl ⟨by kernel_rfl, ?_⟩) (by assumption) ?_
 rotate_left
 ·intro w hSw; (try dsimp only at hSw); go_simp; (try with_reducible rfl)
 (try simp only [Act.put, List.getElem_toArray, List.getElem_cons_zero, List.getElem_cons_succ, List.setIfInBounds_toArray, List.set_cons_zero, List.set_cons_succ])
 refine wpAnyH_take (i := 9) (v := ?_) rfl (by kernel_rfl) (by kernel_rfl) (by kernel_rfl) (fun _ _ _ h => h) (Or.inl ⟨by kernel_rfl, ?_⟩) (by assumption) ?_
 rotate_left
 ·intro w hSw; (try dsimp only at hSw); go_simp; (try with_reducible rfl)
 (try simp only [Act.put, List.getElem_toArray, List.getElem_cons_zero, List.getElem_cons_succ, List.setIfInBounds_toArray, List.set_cons_zero, List.set_cons_succ])
 refine wpAnyH_take (i := 10) (v := ?_) rfl (by kernel_rfl) (by kernel_rfl) (by kernel_rfl) (fun _ _ _ h => h) (Or.inl ⟨by kernel_rfl, ?_⟩) (by assumption) ?_
 rotate_left
 ·intro w hSw; (try dsimp only at hSw); go_simp; (try with_reducible rfl)
 (try simp only [Act.put, List.getElem_toArray, List.getElem_cons_zero, List.getElem_cons_succ, List.setIfInBounds_toArray, List.set_cons_zero, List.set_cons_succ])
 refine wpAnyH_take (i := 11) (v := ?_) rfl (by kernel_rfl) (by kernel_rfl) (by kernel_rfl) (fun _ _ _ h => h) (Or.inl ⟨by kernel_rfl, ?_⟩) (by assumption) ?_
 rotate_left
 ·intro w hSw; (try dsimp only at hSw); go_simp; (try with_reducible rfl)
 (try simp only [Act.put, List.getElem_toArray, List.getElem_cons_zero, List.getElem_cons_succ, List.setIfInBounds_toArray, List.set_cons_zero, List.set_cons_succ])
 refine wpAnyH_ready (rs := [5]) (by kernel_rfl) (by simp) ?_
 refine AllReadyH.cons rfl (fun K hK => ?_) AllReadyH.nil
 go_simp
 refine (pof_c g mb _ kda kka _ _ _ HCa.out HS1.out.drew (KidsD.kept (HR1.out.kids HS1.out HKa.out) (Kept.refl _).drew) (by have := HN.out; simp only [List.length_append, List.length_cons, List.length_nil] at this ⊢; omega)).mono ?_
 rintro e w2 ⟨rfl, v2, hs, hr⟩
 have HR2 := Lib.hid ((HR1.out.trans (PrR.of_kept (Kept.refl _).drew _)).trans hr)
 have HS2 := Lib.hid hs
 clear hs hr
 refine hK.out _ _ ⟨(HR2.out.blk HB1.out HO.out.1 HO.out.2).cell 0, (HR2.out.blk HB1.out HO.out.1 HO.out.2).cell 1, (HR2.out.blk HB1.out HO.out.1 HO.out.2).cell 2, (HR2.out.blk HB1.out HO.out.1 HO.out.2).cell 3, (HR2.out.blk HB1.out HO.out.1 HO.out.2).cell 4, (HR2.out.blk HB1.out HO.out.1 HO.out.2).cell 5, HR2.out.low1 HS1.out hD ca0, HR2.out.low1 HS1.out hD ca1, HR2.out.low1 HS1.out hD ca2, HR2.out.low1 HS1.out hD ca3, HR2.out.low1 HS1.out hD ca4, HR2.out.low1 HS1.out hD ca5⟩ (fun hHeld1 => ?_)
 clear hK K
 (try simp only [Act.put, List.getElem_toArray, List.getElem_cons_zero, List.getElem_cons_succ, List.setIfInBounds_toArray, List.set_cons_zero, List.set_cons_succ])
 clear hHeld0
 refine wpAnyH_ready (rs := [8]) (by kernel_rfl) (by simp) ?_
 refine AllReadyH.cons rfl (fun K hK => ?_) AllReadyH.nil
 go_simp
 refine (pname_c t HS2.out (by have := HN.out; simp only [List.length_append, List.length_cons, List.length_nil] at this ⊢; omega)).mono ?_
 rintro e w3 ⟨rfl, v3, hs, hr⟩
 have HR3 := Lib.hid (HR2.out.trans hr)
 have HS3 := Lib.hid hs
 clear hs hr
 refine hK.out _ _ ⟨(HR3.out.blk HB1.out HO.out.1 HO.out.2).cell 0, (HR3.out.blk HB1.out HO.out.1 HO.out.2).cell 1, (HR3.out.blk HB1.out HO.out.1 HO.out.2).cell 2, (HR3.out.blk HB1.out HO.out.1 HO.out.2).cell 3, (HR3.out.blk HB1.out HO.out.1 HO.out.2).cell 4, (HR3.out.blk HB1.out HO.out.1 HO.out.2).cell 5, HR3.out.low1 HS1.out hD ca0, HR3.out.low1 HS1.out hD ca1, HR3.out.low1 HS1.out hD ca2, HR3.out.low1 HS1.out hD ca3, HR3.out.low1 HS1.out hD ca4, HR3.out.low1 HS1.out hD ca5⟩ (fun hHeld2 => ?_)
 clear hK K
 (try simp only [Act.put, List.getElem_toArray, List.getElem_cons_zero, List.getElem_cons_succ, List.setIfInBounds_toArray, List.set_cons_zero, List.set_cons_succ])
 clear hHeld1
 refine wpAnyH_ready (rs := [12]) (by kernel_rfl) (by simp) ?_
 refine AllReadyH.cons rfl (fun K hK => ?_) AllReadyH.nil
 go_simp
 refine (pbrackets_cP g mb l (some ⟨kb, ko + 6, none⟩) (ck - 1) _ _ _ HCl.out HS3.out (HR3.out.kids HS1.out HDt.out) (by have := HN.out; simp only [List.length_append, List.length_cons, List.length_nil] at this ⊢; omega)).mono ?_
 rintro e w4 ⟨rfl, v4, hs, hr⟩
 have HR4 := Lib.hid (HR3.out.trans hr)
 have HS4 := Lib.hid hs
 clear hs hr
 refine hK.out _ _ ⟨(HR4.out.blk HB1.out HO.out.1 HO.out.2).cell 0, (HR4.out.blk HB1.out HO.out.1 HO.out.2).cell 1, (HR4.out.blk HB1.out HO.out.1 HO.out.2).cell 2, (HR4.out.blk HB1.out HO.out.1 HO.out.2).cell 3, (HR4.out.blk HB1.out HO.out.1 HO.out.2).cell 4, (HR4.out.blk HB1.out HO.out.1 HO.out.2).cell 5, HR4.out.low1 HS1.out hD ca0, HR4.out.low1 HS1.out hD ca1, HR4.out.low1 HS1.out hD ca2, HR4.out.low1 HS1.out hD ca3, HR4.out.low1 HS1.out hD ca4, HR4.out.low1 HS1.out hD ca5⟩ (fun hHeld3 => ?_)
 clear hK K
 (try simp only [Act.put, List.getElem_toArray, List.getElem_cons_zero, List.getElem_cons_succ, List.setIfInBounds_toArray, List.set_cons_zero, List.set_cons_succ])
 clear hHeld2
 refine wpAnyH_take (i := 13) (v := ?_) rfl (by kernel_rfl) (by kernel_rfl) (by kernel_rfl) (fun _ _ _ h => h) (Or.inl ⟨by kernel_rfl, ?_⟩) (by assumption) ?_
 rotate_left
 ·intro w hSw; (try dsimp only at hSw); go_simp; (try with_reducible rfl)
 (try simp only [Act.put, List.getElem_toArray, List.getElem_cons_zero, List.getElem_cons_succ, List.setIfInBounds_toArray, List.set_cons_zero, List.set_cons_succ])
 refine wpAnyH_done (by kernel_rfl) ?_ _
 clear hHeld3
 go_wp2_with fail
 go_ret
 exact ⟨rfl, _, by rw [HE.out]; exact HS4.out, (PrR.of_kept HK1.out v).trans HR4.out⟩
end Go.Proofs.YtfpklgffdniegaaGreatDoor
namespace Go.Proofs.YtfpklgffdniegaaGreatDoor
open Go.ChangeShapes Go.WideShapes Go.ChangeAt Go.RowKit
attribute [local go_sem] Oper.semAt_some
open Pr (key sgn nam tk toks typT ann sep brk at1)
set_option maxHeartbeats 4000000 in
theorem pways_c (w : World) : Calls Tryz.prog 35 #[] w fun e w' => e = .returned (.map (some w.heap.size)) ∧ MapI Tryz.prog 3 w.heap.size 29 wayI w' ∧ Kept w w' := by
 have law := Maps.int_keyed (P := Tryz.prog) Tryz.underlying3
 have h0 : MapI Tryz.prog 3 w.heap.size 0 (fun _ => none) (w.alloc (.map #[] 0)) := MapI.made w _ _
 have k0 : Kept w (w.alloc (.map #[] 0)) := (Kept.refl w).alloc _
 have HM := Lib.hid (And.intro h0 k0)
 have LAW := Lib.hid law
 clear h0 k0 law
 have hmm := @run_makeMap Tryz.prog
 go_enter Tryz.func35, Tryz.ntmps35
 go_wp2_with (refine wpList_insertI rfl _ _ _ 73 rfl 3 117 LAW.out Tryz.underlying73 _ _ rfl HM.out.1 (by unfold maxLen; omega) _ _ rfl rfl (Maps.keyOf_int_mk Tryz.underlying3 (by decide)) ?_; intro wn hn gn; replace HM := Lib.hid (And.intro hn (HM.out.2.grown gn (fun k e => by cases e; exact Nat.le_refl _))); clear hn gn)
 go_ret
 exact ⟨rfl, HM.out.1, HM.out.2⟩
theorem pway_zero (w : World) : (zeroValue 117).run Tryz.prog w = .ok .nilFunc w := by kernel_rfl
set_option maxHeartbeats 4000000 in
theorem pnode_cP (g mb : Nat) (x : Nd) (F : Nat) (hw : wayI x.kind = some (.func (.func F) #[] #[])) (heg : ∀ args w, (callFunc F args).run Tryz.prog w = .ok (.enter F args) w) (hkd : 0 ≤ x.kind ∧ x.kind ≤ 100)
  (L : List Lx.T) (v : Value) (w : World) (ad : Option Addr) (ck : Nat) (h : PrS g mb L v w) (hk : KidsD (fun k => k < mb) w (.slice ad x.kids.length ck) x.kids)
  (HM : ∀ W, PrS g mb L v W → KidsD (fun k => k < mb) W (.slice ad x.kids.length ck) x.kids → Calls Tryz.prog F #[.pointer (some ⟨g, 0, none⟩), ndV x (.slice ad x.kids.length ck)] W (PrPost g mb (L ++ toks x) v W)) :
  Calls Tryz.prog 36 #[.pointer (some ⟨g, 0, none⟩), ndV x (.slice ad x.kids.length ck)] w (PrPost g mb (L ++ toks x) v w) := by
 obtain ⟨W1, hW1⟩ : ∃ W, w.alloc (.cells #[.int .i64 x.kind, .string x.text, .string x.typ, .string x.frm, .int .i64 x.n, .slice ad x.kids.length ck] 24) = W := ⟨_, rfl⟩
 have k1 : Kept w W1 := by rw [← hW1]; exact (Kept.refl _).alloc _
 have b1 : Blk W1 w.heap.size 24 #[.int .i64 x.kind, .string x.text, .string x.typ, .string x.frm, .int .i64 x.n, .slice ad x.kids.length ck] := by rw [← hW1]; exact Blk.new _ _ _
 have HO := Lib.hid (show w.heap.size ≠ g ∧ v.ownBlock ≠ some w.heap.size from ⟨by have := h.blk.lt; omega, fun e => by have := (h.own e).2; omega⟩)
 have HS1 := Lib.hid (h.kept k1)
 have HK1 := Lib.hid k1
 have HB1 := Lib.hid b1
 have HW1 := Lib.hid hW1
 have HX := Lib.hid (HM W1.drew (h.kept k1).drew (KidsD.kept (KidsD.kept hk k1) (Kept.refl _).drew))
 have HL := Lib.hid (fun W (h : MapI Tryz.prog 3 mb 29 wayI W) => show (Instr.lookup 73 (.map (some mb)) (.int .i64 x.kind) false).run Tryz.prog W = .ok (.func (.func F) #[] #[]) W from by
  have := h.look (Maps.int_keyed (P := Tryz.prog) Tryz.underlying3) Tryz.underlying73 (pway_zero W) x.kind (Maps.keyOf_int_mk Tryz.underlying3 (by have h1 : IntKind.i64.min = -9223372036854775808 := rfl; have h2 : IntKind.i64.max = 9223372036854775807 := rfl; simp [Lit.wf]; omega))
  rw [hw] at this
  exact this)
 clear h hk k1 b1 hW1 HM hw hkd
 go_enter Tryz.func36, Tryz.ntmps36
 go_wp2_with (rw [HW1.out])
 refine wp_region_held_drew (S := (fun W => W.cell? ⟨g, 1, none⟩ = some (.map (some mb)) ∧ W.cell? ⟨w.heap.size, 0, none⟩ = some (.int .i64 x.kind) ∧ W.cell? ⟨w.heap.size, 1, none⟩ = some (.string x.text) ∧ W.cell? ⟨w.heap.size, 2, none⟩ = some (.string x.typ) ∧ W.cell? ⟨w.heap.size, 3, none⟩ = some (.string x.frm) ∧ W.cell? ⟨w.heap.size, 4, none⟩ = some (.int .i64 x.n) ∧ W.cell? ⟨w.heap.size, 5, none⟩ = some (.slice ad x.kids.length ck) ∧ MapI Tryz.prog 3 mb 29 wayI W)) (by kernel_rfl) ⟨HS1.out.drew.blk.cell 1, HB1.out.drew.cell 0, HB1.out.drew.cell 1, HB1.out.drew.cell 2, HB1.out.drew.cell 3, HB1.out.drew.cell 4, HB1.out.drew.cell 5, HS1.out.drew.map⟩ (fun hHeld0 => ?_)
 refine wpAnyH_take (i := 0) (v := ?_) rfl (by kernel_rfl) (by kernel_rfl) (by kernel_rfl) (fun _ _ _ h => h) (Or.inl ⟨by kernel_rfl, ?_⟩) (by assumption) ?_
 rotate_left
 ·intro w hSw; (try dsimp only at hSw); go_simp; (try with_reducible rfl)
 (try simp only [Act.put, List.getElem_toArray, List.getElem_cons_zero, List.getElem_cons_succ, List.setIfInBounds_toArray, List.set_cons_zero, List.set_cons_succ])
 refine wpAnyH_take (i := 1) (v := ?_) rfl (by kernel_rfl) (by kernel_rfl) (by kernel_rfl) (fun _ _ _ h => h) (Or.inl ⟨by kernel_rfl, ?_⟩) (by assumption) ?_
 rotate_left
 ·intro w hSw; (try dsimp only at hSw); go_simp; (try with_reducible rfl)
 (try simp only [Act.put, List.getElem_toArray, List.getElem_cons_zero, List.getElem_cons_succ, List.setIfInBounds_toArray, List.set_cons_zero, List.set_cons_succ])
 refine wpAnyH_take (i := 2) (v := ?_) rfl (by kernel_rfl) (by kernel_rfl) (by kernel_rfl) (fun _ _ _ h => h) (Or.inl ⟨by kernel_rfl, ?_⟩) (by assumption) ?_
 rotate_left
 ·intro w hSw; (try dsimp only at hSw); go_simp; (try with_reducible rfl)
 (try simp only [Act.put, List.getElem_toArray, List.getElem_cons_zero, List.getElem_cons_succ, List.setIfInBounds_toArray, List.set_cons_zero, List.set_cons_succ])
 refine wpAnyH_take (i := 3) (v := ?_) rfl (by kernel_rfl) (by kernel_rfl) (by kernel_rfl) (fun _ _ _ h => h) (Or.inl ⟨by kernel_rfl, ?_⟩) (by assumption) ?_
 rotate_left
 ·intro w hSw; (try dsimp only at hSw); go_simp; (try with_reducible rfl)
 (try simp only [Act.put, List.getElem_toArray, List.getElem_cons_zero, List.getElem_cons_succ, List.setIfInBounds_toArray, List.set_cons_zero, List.set_cons_succ])
 refine wpAnyH_take (i := 4) (v := ?_) rfl (by kernel_rfl) (by kernel_rfl) (by kernel_rfl) (fun _ _ _ h => h) (Or.inl ⟨by kernel_rfl, ?_⟩) (by assumption) ?_
 rotate_left
 ·intro w hSw; (try dsimp only at hSw); go_simp; (try with_reducible rfl)
 (try simp only [Act.put, List.getElem_toArray, List.getElem_cons_zero, List.getElem_cons_succ, List.setIfInBounds_toArray, List.set_cons_zero, List.set_cons_succ])
 refine wpAnyH_take (i := 5) (v := ?_) rfl (by kernel_rfl) (by kernel_rfl) (by kernel_rfl) (fun _ _ _ h => h) (Or.inl ⟨by kernel_rfl, ?_⟩) (by assumption) ?_
 rotate_left
 ·intro w hSw; (try dsimp only at hSw); go_simp; (try with_reducible rfl)
 (try simp only [Act.put, List.getElem_toArray, List.getElem_cons_zero, List.getElem_cons_succ, List.setIfInBounds_toArray, List.set_cons_zero, List.set_cons_succ])
 refine wpAnyH_take (i := 6) (v := ?_) rfl (by kernel_rfl) (by kernel_rfl) (by kernel_rfl) (fun _ _ _ h => h) (Or.inl ⟨by kernel_rfl, ?_⟩) (by assumption) ?_
 rotate_left
 ·intro w hSw
  (try dsimp only at hSw)
  go_simp
  rw [HL.out w hSw.2.2.2.2.2.2.2]
  rfl
 (try simp only [Act.put, List.getElem_toArray, List.getElem_cons_zero, List.getElem_cons_succ, List.setIfInBounds_toArray, List.set_cons_zero, List.set_cons_succ])
 refine wpAnyH_take (i := 7) (v := ?_) rfl (by kernel_rfl) (by kernel_rfl) (by kernel_rfl) (fun _ _ _ h => h) (Or.inl ⟨by kernel_rfl, ?_⟩) (by assumption) ?_
 rotate_left
 ·intro w hSw; (try dsimp only at hSw); go_simp; (try with_reducible rfl)
 (try simp only [Act.put, List.getElem_toArray, List.getElem_cons_zero, List.getElem_cons_succ, List.setIfInBounds_toArray, List.set_cons_zero, List.set_cons_succ])
 refine wpAnyH_take (i := 8) (v := ?_) rfl (by kernel_rfl) (by kernel_rfl) (by kernel_rfl) (fun _ _ _ h => h) (Or.inl ⟨by kernel_rfl, ?_⟩) (by assumption) ?_
 rotate_left
 ·intro w hSw; (try dsimp only at hSw); go_simp; (try with_reducible rfl)
 (try simp only [Act.put, List.getElem_toArray, List.getElem_cons_zero, List.getElem_cons_succ, List.setIfInBounds_toArray, List.set_cons_zero, List.set_cons_succ])
 refine wpAnyH_ready (rs := [9]) (by kernel_rfl) (by simp) ?_
 refine AllReadyH.cons rfl (fun K hK => ?_) AllReadyH.nil
 go_simp
 refine HX.out.mono ?_
 rintro e w2 ⟨rfl, v2, h2, r2⟩
 have HQ2 := Lib.hid ((PrR.of_kept (g := g) (Kept.refl W1).drew v).trans r2)
 have HS2 := Lib.hid h2
 have HB2 := Lib.hid (HQ2.out.blk HB1.out HO.out.1 HO.out.2)
 clear h2 r2
 refine hK.out _ _ ⟨HS2.out.blk.cell 1, HB2.out.cell 0, HB2.out.cell 1, HB2.out.cell 2, HB2.out.cell 3, HB2.out.cell 4, HB2.out.cell 5, HS2.out.map⟩ (fun hHeld1 => ?_)
 clear hK K
 (try simp only [Act.put, List.getElem_toArray, List.getElem_cons_zero, List.getElem_cons_succ, List.setIfInBounds_toArray, List.set_cons_zero, List.set_cons_succ])
 clear hHeld0
 refine wpAnyH_take (i := 10) (v := ?_) rfl (by kernel_rfl) (by kernel_rfl) (by kernel_rfl) (fun _ _ _ h => h) (Or.inl ⟨by kernel_rfl, ?_⟩) (by assumption) ?_
 rotate_left
 ·intro w hSw; (try dsimp only at hSw); go_simp; (try with_reducible rfl)
 (try simp only [Act.put, List.getElem_toArray, List.getElem_cons_zero, List.getElem_cons_succ, List.setIfInBounds_toArray, List.set_cons_zero, List.set_cons_succ])
 refine wpAnyH_done (by kernel_rfl) ?_ _
 clear hHeld1
 go_wp2_with fail
 go_ret
 exact ⟨rfl, v2, HS2.out, (PrR.of_kept HK1.out v).trans HQ2.out⟩
end Go.Proofs.YtfpklgffdniegaaGreatDoor
namespace Go.Proofs.YtfpklgffdniegaaGreatDoor
open Go.ChangeShapes Go.WideShapes Go.ChangeAt Go.RowKit
open Pr (key sgn nam tk toks typT ann sep brk at1)
theorem bin_ne {t : ByteArray} (h : hasW wBin t = true) : t ≠ Ps.e0 := by
 rintro rfl
 exact absurd h (by decide +kernel)
set_option maxHeartbeats 4000000 in
theorem node_all (g mb : Nat) (x : Nd) : Wf x → NodeC g mb x := by
 refine Nd.ind (P := fun x => Wf x → NodeC g mb x) (fun x ih hw => ?_) x
 have hk : ∀ y ∈ x.kids, NodeC g mb y := fun y hy => ih y hy (hw.kid hy)
 have hs := hw.sh
 clear ih hw
 cases hs with
 | prog cs b h1 h2 =>
  intro L v w ad ck h hkd hn
  refine pnode_cP g mb _ 58 rfl (enters_of Tryz.func58 (by kernel_rfl) rfl) ⟨by simp [Nd.kind], by simp [Nd.kind]⟩ L v w ad ck h hkd (fun W hW kW => ?_)
  rw [Pr.toks_eq] at hn ⊢
  have e : (cs ++ [b]).length = cs.length + 1 := by simp
  have kW : KidsD (fun k => k < mb) W (.slice ad (cs ++ [b]).length ck) (cs ++ [b]) := kW
  rw [e] at kW
  show Calls Tryz.prog _ #[_, .agg #[_, _, _, _, _, .slice ad (cs ++ [b]).length ck]] W _
  rw [e]
  exact pm_prog g mb _ _ _ _ cs b L v W ad ck (fun y hy => hk y (by simp [Nd.kids, hy])) (hk b (by simp [Nd.kids])) hW kW hn
 | clas t y fs ms ht hy h1 h2 =>
  intro L v w ad ck h hkd hn
  refine pnode_cP g mb _ 59 rfl (enters_of Tryz.func59 (by kernel_rfl) rfl) ⟨by simp [Nd.kind], by simp [Nd.kind]⟩ L v w ad ck h hkd (fun W hW kW => ?_)
  rw [Pr.toks_eq] at hn ⊢
  exact pm_class g mb _ _ _ _ (fs ++ ms) L v W ad ck (fun z hz => hk z hz) hW kW hn
 | field t y ht hy =>
  intro L v w ad ck h hkd hn
  refine pnode_cP g mb _ 60 rfl (enters_of Tryz.func60 (by kernel_rfl) rfl) ⟨by simp [Nd.kind], by simp [Nd.kind]⟩ L v w ad ck h hkd (fun W hW kW => ?_)
  rw [Pr.toks_eq] at hn ⊢
  exact pm_field g mb _ _ _ _ L v W ad ck hW kW hn
 | method t y ps b ht hy h1 h2 =>
  intro L v w ad ck h hkd hn
  refine pnode_cP g mb _ 61 rfl (enters_of Tryz.func61 (by kernel_rfl) rfl) ⟨by simp [Nd.kind], by simp [Nd.kind]⟩ L v w ad ck h hkd (fun W hW kW => ?_)
  rw [Pr.toks_eq] at hn ⊢
  have e : (ps ++ [b]).length = ps.length + 1 := by simp
  have kW : KidsD (fun k => k < mb) W (.slice ad (ps ++ [b]).length ck) (ps ++ [b]) := kW
  rw [e] at kW
  show Calls Tryz.prog _ #[_, .agg #[_, _, _, _, _, .slice ad (ps ++ [b]).length ck]] W _
  rw [e]
  exact pm_method g mb _ _ _ _ ps b L v W ad ck (fun y hy => hk y (by simp [Nd.kids, hy])) (hk b (by simp [Nd.kids])) hW kW hn
 | param t y ht hy =>
  intro L v w ad ck h hkd hn
  refine pnode_cP g mb _ 62 rfl (enters_of Tryz.func62 (by kernel_rfl) rfl) ⟨by simp [Nd.kind], by simp [Nd.kind]⟩ L v w ad ck h hkd (fun W hW kW => ?_)
  rw [Pr.toks_eq] at hn ⊢
  exact pm_param g mb _ _ _ _ L v W ad ck hW kW hn
 | block l hl =>
  intro L v w ad ck h hkd hn
  refine pnode_cP g mb _ 63 rfl (enters_of Tryz.func63 (by kernel_rfl) rfl) ⟨by simp [Nd.kind], by simp [Nd.kind]⟩ L v w ad ck h hkd (fun W hW kW => ?_)
  rw [Pr.toks_eq] at hn ⊢
  exact pm_block g mb _ _ _ _ l L v W ad ck (fun z hz => hk z hz) hW kW hn
 | int n hn0 =>
  intro L v w ad ck h hkd hn
  refine pnode_cP g mb _ 65 rfl (enters_of Tryz.func65 (by kernel_rfl) rfl) ⟨by simp [Nd.kind], by simp [Nd.kind]⟩ L v w ad ck h hkd (fun W hW kW => ?_)
  rw [Pr.toks_eq] at hn ⊢
  exact pm_whole g mb _ _ _ _ L v W ad ck hW kW hn
 | real n hn0 =>
  intro L v w ad ck h hkd hn
  refine pnode_cP g mb _ 66 rfl (enters_of Tryz.func66 (by kernel_rfl) rfl) ⟨by simp [Nd.kind], by simp [Nd.kind]⟩ L v w ad ck h hkd (fun W hW kW => ?_)
  rw [Pr.toks_eq] at hn ⊢
  have hn : L.length + 1 ≤ 1000000000 := hn
  exact pm_real g mb _ _ _ _ L v W ad ck hW hn
 | noNum t ht =>
  intro L v w ad ck h hkd hn
  refine pnode_cP g mb _ 66 rfl (enters_of Tryz.func66 (by kernel_rfl) rfl) ⟨by simp [Nd.kind], by simp [Nd.kind]⟩ L v w ad ck h hkd (fun W hW kW => ?_)
  rw [Pr.toks_eq] at hn ⊢
  have hn : L.length + 1 ≤ 1000000000 := by rcases ht with rfl | rfl <;> exact hn
  exact pm_real g mb _ _ _ _ L v W ad ck hW hn
 | bool n hn0 =>
  intro L v w ad ck h hkd hn
  refine pnode_cP g mb _ 67 rfl (enters_of Tryz.func67 (by kernel_rfl) rfl) ⟨by simp [Nd.kind], by simp [Nd.kind]⟩ L v w ad ck h hkd (fun W hW kW => ?_)
  rw [Pr.toks_eq] at hn ⊢
  have hn : L.length + 1 ≤ 1000000000 := by rcases hn0 with rfl | rfl <;> exact hn
  exact pm_truth g mb _ _ _ _ L v W ad ck hW hn
 | str t ht hs =>
  intro L v w ad ck h hkd hn
  refine pnode_cP g mb _ 68 rfl (enters_of Tryz.func68 (by kernel_rfl) rfl) ⟨by simp [Nd.kind], by simp [Nd.kind]⟩ L v w ad ck h hkd (fun W hW kW => ?_)
  rw [Pr.toks_eq] at hn ⊢
  exact pm_text g mb _ _ _ _ L v W ad ck hW kW hn
 | unit =>
  intro L v w ad ck h hkd hn
  refine pnode_cP g mb _ 69 rfl (enters_of Tryz.func69 (by kernel_rfl) rfl) ⟨by simp [Nd.kind], by simp [Nd.kind]⟩ L v w ad ck h hkd (fun W hW kW => ?_)
  rw [Pr.toks_eq] at hn ⊢
  exact pm_unit g mb _ _ _ _ L v W ad ck hW kW hn
 | none y hy =>
  intro L v w ad ck h hkd hn
  refine pnode_cP g mb _ 71 rfl (enters_of Tryz.func71 (by kernel_rfl) rfl) ⟨by simp [Nd.kind], by simp [Nd.kind]⟩ L v w ad ck h hkd (fun W hW kW => ?_)
  rw [Pr.toks_eq] at hn ⊢
  exact pm_none g mb _ _ _ _ L v W ad ck hW kW hn
 | this =>
  intro L v w ad ck h hkd hn
  refine pnode_cP g mb _ 70 rfl (enters_of Tryz.func70 (by kernel_rfl) rfl) ⟨by simp [Nd.kind], by simp [Nd.kind]⟩ L v w ad ck h hkd (fun W hW kW => ?_)
  rw [Pr.toks_eq] at hn ⊢
  exact pm_this g mb _ _ _ _ L v W ad ck hW kW hn
 | var t ht =>
  intro L v w ad ck h hkd hn
  refine pnode_cP g mb _ 72 rfl (enters_of Tryz.func72 (by kernel_rfl) rfl) ⟨by simp [Nd.kind], by simp [Nd.kind]⟩ L v w ad ck h hkd (fun W hW kW => ?_)
  rw [Pr.toks_eq] at hn ⊢
  exact pm_variable g mb _ _ _ _ L v W ad ck hW kW hn
 | let_ t y a ht hy ha =>
  intro L v w ad ck h hkd hn
  refine pnode_cP g mb _ 64 rfl (enters_of Tryz.func64 (by kernel_rfl) rfl) ⟨by simp [Nd.kind], by simp [Nd.kind]⟩ L v w ad ck h hkd (fun W hW kW => ?_)
  rw [Pr.toks_eq] at hn ⊢
  exact pm_let g mb _ _ _ _ a L v W ad ck (hk a (by simp [Nd.kids])) hW kW hn
 | set t a ht ha =>
  intro L v w ad ck h hkd hn
  refine pnode_cP g mb _ 73 rfl (enters_of Tryz.func73 (by kernel_rfl) rfl) ⟨by simp [Nd.kind], by simp [Nd.kind]⟩ L v w ad ck h hkd (fun W hW kW => ?_)
  rw [Pr.toks_eq] at hn ⊢
  exact pm_set g mb _ _ _ _ a L v W ad ck (hk a (by simp [Nd.kids])) hW kW hn
 | get t a ht ha =>
  intro L v w ad ck h hkd hn
  refine pnode_cP g mb _ 75 rfl (enters_of Tryz.func75 (by kernel_rfl) rfl) ⟨by simp [Nd.kind], by simp [Nd.kind]⟩ L v w ad ck h hkd (fun W hW kW => ?_)
  rw [Pr.toks_eq] at hn ⊢
  exact pm_get g mb _ _ _ _ a L v W ad ck (hk a (by simp [Nd.kids])) hW kW hn
 | put t a b ht ha hb =>
  intro L v w ad ck h hkd hn
  refine pnode_cP g mb _ 74 rfl (enters_of Tryz.func74 (by kernel_rfl) rfl) ⟨by simp [Nd.kind], by simp [Nd.kind]⟩ L v w ad ck h hkd (fun W hW kW => ?_)
  rw [Pr.toks_eq] at hn ⊢
  exact pm_put g mb _ _ _ _ a b L v W ad ck (hk a (by simp [Nd.kids])) (hk b (by simp [Nd.kids])) hW kW hn
 | call t a l ht ha hl =>
  intro L v w ad ck h hkd hn
  refine pnode_cP g mb _ 76 rfl (enters_of Tryz.func76 (by kernel_rfl) rfl) ⟨by simp [Nd.kind], by simp [Nd.kind]⟩ L v w ad ck h hkd (fun W hW kW => ?_)
  rw [Pr.toks_eq] at hn ⊢
  by_cases hc : ck = 1
  ·subst hc
   obtain ⟨a', c', e, h1, _, _⟩ := kW
   have hz : l = [] := by
    injection e with _ _ e3
    have h1 : l.length + 1 ≤ c' := h1
    rw [← e3] at h1
    exact List.length_eq_zero_iff.1 (by omega)
   subst hz
   exact pm_call1 g mb _ _ _ _ a L v W ad (hk a (by simp [Nd.kids])) hW ⟨a', c', e, h1, by assumption, by assumption⟩ hn
  ·exact pm_call2 g mb _ _ _ _ a l L v W ad ck (hk a (by simp [Nd.kids])) (fun y hy => hk y (by simp [Nd.kids, hy])) hW kW hc hn
 | super t l ht hl =>
  intro L v w ad ck h hkd hn
  refine pnode_cP g mb _ 77 rfl (enters_of Tryz.func77 (by kernel_rfl) rfl) ⟨by simp [Nd.kind], by simp [Nd.kind]⟩ L v w ad ck h hkd (fun W hW kW => ?_)
  rw [Pr.toks_eq] at hn ⊢
  exact pm_super g mb _ _ _ _ l L v W ad ck (fun z hz => hk z hz) hW kW hn
 | new y l hy hl =>
  intro L v w ad ck h hkd hn
  refine pnode_cP g mb _ 78 rfl (enters_of Tryz.func78 (by kernel_rfl) rfl) ⟨by simp [Nd.kind], by simp [Nd.kind]⟩ L v w ad ck h hkd (fun W hW kW => ?_)
  rw [Pr.toks_eq] at hn ⊢
  exact pm_object g mb _ _ _ _ l L v W ad ck (fun z hz => hk z hz) hW kW hn
 | cond a b c ha h1 h2 =>
  intro L v w ad ck h hkd hn
  refine pnode_cP g mb _ 79 rfl (enters_of Tryz.func79 (by kernel_rfl) rfl) ⟨by simp [Nd.kind], by simp [Nd.kind]⟩ L v w ad ck h hkd (fun W hW kW => ?_)
  rw [Pr.toks_eq] at hn ⊢
  exact pm_choice g mb _ _ _ _ a b c L v W ad ck (hk a (by simp [Nd.kids])) (hk b (by simp [Nd.kids])) (hk c (by simp [Nd.kids])) hW kW hn
 | loop a b ha h1 =>
  intro L v w ad ck h hkd hn
  refine pnode_cP g mb _ 80 rfl (enters_of Tryz.func80 (by kernel_rfl) rfl) ⟨by simp [Nd.kind], by simp [Nd.kind]⟩ L v w ad ck h hkd (fun W hW kW => ?_)
  rw [Pr.toks_eq] at hn ⊢
  exact pm_loop g mb _ _ _ _ [a, b] L v W ad ck (fun z hz => hk z hz) hW kW hn
 | un t a ht ha =>
  intro L v w ad ck h hkd hn
  refine pnode_cP g mb _ 81 rfl (enters_of Tryz.func81 (by kernel_rfl) rfl) ⟨by simp [Nd.kind], by simp [Nd.kind]⟩ L v w ad ck h hkd (fun W hW kW => ?_)
  rw [Pr.toks_eq] at hn ⊢
  exact pm_unary g mb _ _ _ _ a L v W ad ck (hk a (by simp [Nd.kids])) hW kW hn
 | bin t a b ht ha hb =>
  intro L v w ad ck h hkd hn
  refine pnode_cP g mb _ 82 rfl (enters_of Tryz.func82 (by kernel_rfl) rfl) ⟨by simp [Nd.kind], by simp [Nd.kind]⟩ L v w ad ck h hkd (fun W hW kW => ?_)
  rw [Pr.toks_eq] at hn ⊢
  exact pm_operation g mb _ _ _ _ a b L v W ad ck (bin_ne ht) (hk a (by simp [Nd.kids])) (hk b (by simp [Nd.kids])) hW kW hn
 | read =>
  intro L v w ad ck h hkd hn
  refine pnode_cP g mb _ 83 rfl (enters_of Tryz.func83 (by kernel_rfl) rfl) ⟨by simp [Nd.kind], by simp [Nd.kind]⟩ L v w ad ck h hkd (fun W hW kW => ?_)
  rw [Pr.toks_eq] at hn ⊢
  exact pm_read g mb _ _ _ _ L v W ad ck hW kW hn
 | print a ha =>
  intro L v w ad ck h hkd hn
  refine pnode_cP g mb _ 84 rfl (enters_of Tryz.func84 (by kernel_rfl) rfl) ⟨by simp [Nd.kind], by simp [Nd.kind]⟩ L v w ad ck h hkd (fun W hW kW => ?_)
  rw [Pr.toks_eq] at hn ⊢
  exact pm_print g mb _ _ _ _ [a] L v W ad ck (fun z hz => hk z hz) hW kW hn
 | as_ y a hy ha =>
  intro L v w ad ck h hkd hn
  refine pnode_cP g mb _ 86 rfl (enters_of Tryz.func86 (by kernel_rfl) rfl) ⟨by simp [Nd.kind], by simp [Nd.kind]⟩ L v w ad ck h hkd (fun W hW kW => ?_)
  rw [Pr.toks_eq] at hn ⊢
  exact pm_as g mb _ _ _ _ a L v W ad ck (hk a (by simp [Nd.kids])) hW kW hn
 | conv t a ht ha =>
  intro L v w ad ck h hkd hn
  refine pnode_cP g mb _ 85 rfl (enters_of Tryz.func85 (by kernel_rfl) rfl) ⟨by simp [Nd.kind], by simp [Nd.kind]⟩ L v w ad ck h hkd (fun W hW kW => ?_)
  rw [Pr.toks_eq] at hn ⊢
  exact pm_conversion g mb _ _ _ _ [a] L v W ad ck (fun z hz => hk z hz) hW kW hn
end Go.Proofs.YtfpklgffdniegaaGreatDoor
namespace Go.Proofs.YtfpklgffdniegaaGreatDoor
open Go.ChangeShapes Go.WideShapes Go.ChangeAt Go.RowKit
attribute [local go_sem] Oper.semAt_some
open Pr (toks)
open Ps Pr
theorem tok_okT {x : Lx.T} (h : Lx.isTok x = true) : TokOk x := by
 obtain ⟨_, h1, h2, h3⟩ := Lx.isTok_small h
 exact ⟨by omega, h3, by omega⟩
/-- A fault's box, made and then written. -/
theorem one_box (w : World) (e a : Int) {Z W : World} (h6 : w.alloc (.cells #[.int .i64 0, .int .i64 0] 32) = Z) (h7 : (Z.setCell ⟨w.heap.size, 0, none⟩ (.int .i64 e)).setCell ⟨w.heap.size, 1, none⟩ (.int .i64 a) = W) :
  Blk Z w.heap.size 32 #[.int .i64 0, .int .i64 0] ∧ Blk W w.heap.size 32 #[.int .i64 e, .int .i64 a] ∧ Kept w W := by
 have b6 : Blk Z w.heap.size 32 #[.int .i64 0, .int .i64 0] := by rw [← h6]; exact Blk.new _ _ _
 have k6 : Kept w Z := by rw [← h6]; exact (Kept.refl _).alloc _
 have o7 : Only (· = w.heap.size) Z W := by rw [← h7]; exact ((Only.refl _ _).put 0 _).put 1 _
 have c8 : Blk W w.heap.size 32 #[.int .i64 e, .int .i64 a] := by
  rw [← h7]
  have := (b6.put 0 (.int .i64 e)).put 1 (.int .i64 a)
  simpa using this
 exact ⟨b6, c8, k6.only o7 rfl (fun k hk => by omega)⟩
theorem tf_results {fn : Func} {p q : Tmp} (h : fn.results = #[.tmp p, .cell q 32]) (tmps : Array Value) (W : World) {g' : Nat} {e a v : Value}
  (hp : tmps.getD p undef = v) (hq : tmps.getD q undef = .pointer (some ⟨g', 0, none⟩)) (hg' : Blk W g' 32 #[e, a]) :
  (results fn tmps).run Tryz.prog W = .ok (.tuple #[v, .agg #[e, a]]) W := by
 have hp' : tmps[p]?.getD undef = v := by simpa using hp
 have hq' : tmps[q]?.getD undef = .pointer (some ⟨g', 0, none⟩) := by simpa using hq
 have e2 := run_loadVar_row (P := Tryz.prog) W g' 32 32 #[e, a] (0, 0) _ hg' Tryz.underlying32 (by rfl) (by kernel_rfl)
 simp [results, h, hp', hq', asAddr, e2]
theorem fput_blk {W : World} {g : Nat} {a b : Value} (h : Blk W g 32 #[a, b]) (e u : Value) : Blk ((W.setCell ⟨g, 0, none⟩ e).setCell ⟨g, 1, none⟩ u) g 32 #[e, u] := by
 have := (h.put 0 e).put 1 u
 simpa using this
theorem fput_only (W : World) (g : Nat) (e u : Value) : Only (· = g) W ((W.setCell ⟨g, 0, none⟩ e).setCell ⟨g, 1, none⟩ u) := ((Only.refl _ _).put 0 _).put 1 _
def ToksPost (x : Nd) (w : World) (e : Ending) (w' : World) : Prop :=
 ((checkE x).1 = 0 ∧ (∃ a c, e = .returned (.tuple #[.slice a (toks x).length c, .agg #[.int .i64 0, .int .i64 0]]) ∧ TksAt w' (.slice a (toks x).length c) (toks x)) ∧ Kept w w') ∨
 ((checkE x).1 ≠ 0 ∧ e = .returned (.tuple #[.slice none 0 0, .agg #[.int .i64 (checkE x).1, .int .i64 (checkE x).2]]) ∧ Kept w w')
set_option maxHeartbeats 8000000 in
theorem ptoks_c (x : Nd) (ad : Option Addr) (ck : Nat) (w : World) (hT : Tb w) (hok : x.ok1) (hk : KidsAt w (.slice ad x.kids.length ck) x.kids) (hcnt : x.count ≤ 1000000000) :
  Calls Tryz.prog 20 #[ndV x (.slice ad x.kids.length ck)] w (ToksPost x w) := by
 obtain ⟨W1, hW1⟩ : ∃ W1, (w.alloc (.cells #[.int .i64 x.kind, .string x.text, .string x.typ, .string x.frm, .int .i64 x.n, .slice ad x.kids.length ck] 24)).alloc (.cells #[.int .i64 0, .int .i64 0] 32) = W1 := ⟨_, rfl⟩
 have k1 : Kept w W1 := by rw [← hW1]; exact ((Kept.refl w).alloc _).alloc _
 have hs1 : W1.heap.size = w.heap.size + 2 := by rw [← hW1]; simp
 have hbx : Blk W1 w.heap.size 24 #[.int .i64 x.kind, .string x.text, .string x.typ, .string x.frm, .int .i64 x.n, .slice ad x.kids.length ck] := by rw [← hW1]; exact (Blk.new _ _ _).alloc _
 have hrb : Blk W1 (w.heap.size + 1) 32 #[.int .i64 0, .int .i64 0] := by rw [← hW1]; exact Blk.at (by simp)
 have HC := Lib.hid (check_c x ad ck W1 (hT.kept k1) hok (KidsD.kept hk k1) hcnt)
 have HK1 := Lib.hid k1
 have HS1 := Lib.hid hs1
 have HBX := Lib.hid hbx
 have HRB := Lib.hid hrb
 have HKD := Lib.hid (KidsD.kept hk k1)
 have HW1 := Lib.hid hW1
 have y0 := hbx.cell 0
 have y1 := hbx.cell 1
 have y2 := hbx.cell 2
 have y3 := hbx.cell 3
 have y4 := hbx.cell 4
 have y5 := hbx.cell 5
 clear hW1 k1 hs1 hbx hrb hk hT hcnt
 go_enter Tryz.func20, Tryz.ntmps20
 go_wp2_with (rw [HW1.out])
 refine HC.out.mono ?_
 rintro e w2 ⟨rfl, k2⟩
 clear HC HW1 y0 y1 y2 y3 y4 y5
 by_cases hE : (checkE x).1 = 0
 ·have hA : (checkE x).2 = 0 := by rw [check_zero hE]
  obtain ⟨hw, h1, hcnt⟩ := check_wf hE
  have HWF := Lib.hid hw
  have HE := Lib.hid hE
  have HN := Lib.hid (show (toks x).length ≤ 1000000000 by have := Pr.W_len (toks x); have := Pr.toks_w x hw; omega)
  rw [hE, hA]
  clear hE hA hw h1 hcnt
  obtain ⟨Z3, hZ3⟩ : ∃ Z, w2.alloc (.cells #[.int .i64 0, .int .i64 0] 32) = Z := ⟨_, rfl⟩
  obtain ⟨W3, hW3⟩ : ∃ Z, (Z3.setCell ⟨w2.heap.size, 0, none⟩ (.int .i64 0)).setCell ⟨w2.heap.size, 1, none⟩ (.int .i64 0) = Z := ⟨_, rfl⟩
  obtain ⟨z3, b3, k3⟩ := one_box w2 0 0 hZ3 hW3
  have HZ3 := Lib.hid hZ3
  have HW3 := Lib.hid hW3
  have p0 := z3.cell 0
  have p1 := z3.cell 1
  have r0 := z3.frozen 0
  have r1 := z3.frozen 1
  have i0 := b3.cell 0
  have i1 := b3.cell 1
  have HK3 := Lib.hid (k2.trans k3)
  have HP := Lib.hid (pways_c W3)
  clear z3 b3 hZ3 hW3 k2 k3
  go_wp2_with (first | rw [HZ3.out] | rw [HW3.out])
  clear p0 p1 r0 r1 i0 i1
  refine HP.out.mono ?_
  rintro e w4 ⟨rfl, hM, k4⟩
  obtain ⟨W5, hW5⟩ : ∃ Z, w4.alloc (.cells #[.slice none 0 0, .map (some W3.heap.size)] prT) = Z := ⟨_, rfl⟩
  have k5 : Kept w4 W5 := by rw [← hW5]; exact (Kept.refl _).alloc _
  have k15 := HK3.out.trans (k4.trans k5)
  have z3 : W1.heap.size ≤ W3.heap.size := HK3.out.size
  have z4 : W3.heap.size < w4.heap.size := hM.lt
  have S5 : PrS w4.heap.size W3.heap.size [] (.slice none 0 0) W5 := ⟨by rw [← hW5]; exact Blk.new _ _ _, World.ownsRow_nil _ _ _ _, z4, hM.only (S := fun _ => False) (Only.of_kept k5) (fun h => h)⟩
  have hkd : KidsD (fun k => k < W3.heap.size) W5 (.slice ad x.kids.length ck) x.kids := by
   have h := KidsD.low HKD.out
   exact KidsD.mono (KidsD.kept h k15) fun k _ h => by omega
  have HNO := Lib.hid (node_all w4.heap.size W3.heap.size x HWF.out [] (.slice none 0 0) W5 ad ck S5 hkd (by simpa using HN.out))
  have b5 := HBX.out.kept k15
  have c0 := b5.cell 0
  have c1 := b5.cell 1
  have c2 := b5.cell 2
  have c3 := b5.cell 3
  have c4 := b5.cell 4
  have c5 := b5.cell 5
  have HK15 := Lib.hid k15
  have HW5 := Lib.hid hW5
  have HZ := Lib.hid (show w.heap.size + 2 ≤ w4.heap.size by have := HS1.out; omega)
  have HRB5 := Lib.hid (HRB.out.kept k15)
  clear hW5 k5 k15 z3 z4 S5 hkd k4 hM b5
  go_wp2_with (rw [HW5.out])
  refine HNO.out.mono ?_
  rintro e w6 ⟨rfl, v6, S6, R6⟩
  have g0 := S6.blk.cell 0
  have b6 := R6.blk HRB5.out (by have := HZ.out; omega) (by simp [Value.ownBlock])
  have x0 := b6.cell 0
  have x1 := b6.cell 1
  have f0 := b6.frozen 0
  have f1 := b6.frozen 1
  have HS6 := Lib.hid S6
  have HR6 := Lib.hid R6
  have HB6 := Lib.hid b6
  clear S6 R6 b6
  go_wp2_with fail
  obtain ⟨W7, hW7⟩ : ∃ Z, (w6.setCell ⟨w.heap.size + 1, 0, none⟩ (.int .i64 0)).setCell ⟨w.heap.size + 1, 1, none⟩ (.int .i64 0) = Z := ⟨_, rfl⟩
  have o7 : Only (· = w.heap.size + 1) w6 W7 := by rw [← hW7]; exact fput_only _ _ _ _
  have S7 := HS6.out.only o7 (by have := HZ.out; omega) (fun b hb e => by have := (HS6.out.own hb).1; have := HZ.out; omega) (by
   intro e
   have h1 := HS6.out.lt
   have h2 := HK3.out.size
   have := HS1.out
   omega)
  have ht : TksAt W7 v6 (toks x) := owns_tks rfl S7.row
  obtain ⟨a7, c7, e7, _⟩ := id ht
  subst e7
  have hb : Blk W7 (w.heap.size + 1) 32 #[.int .i64 0, .int .i64 0] := by rw [← hW7]; exact fput_blk HB6.out _ _
  have hk7 : Kept w W7 := ((HK1.out.trans HK15.out).only HR6.out.1 rfl (fun k hk => by
   rcases hk with e | e
   ·have := HZ.out; omega
   ·simp [Value.ownBlock] at e)).only o7 rfl (fun k hk => by omega)
  rw [hW7]
  exact bodyPost_ret (tf_results (by rfl) _ _ rfl rfl hb) rfl (.inl ⟨HE.out, ⟨_, _, rfl, ht⟩, hk7⟩)
 ·have HE := Lib.hid hE
  obtain ⟨ce, hce⟩ : ∃ ce, (checkE x).1 = ce := ⟨_, rfl⟩
  obtain ⟨ca, hca⟩ : ∃ ca, (checkE x).2 = ca := ⟨_, rfl⟩
  have HCV := Lib.hid (And.intro hce hca)
  rw [hce, hca]
  rw [hce] at hE
  have hEb : (ce != 0) = true := by simp [hE]
  clear hce hca
  obtain ⟨Z3, hZ3⟩ : ∃ Z, w2.alloc (.cells #[.int .i64 0, .int .i64 0] 32) = Z := ⟨_, rfl⟩
  obtain ⟨W3, hW3⟩ : ∃ Z, (Z3.setCell ⟨w2.heap.size, 0, none⟩ (.int .i64 ce)).setCell ⟨w2.heap.size, 1, none⟩ (.int .i64 ca) = Z := ⟨_, rfl⟩
  obtain ⟨z3, b3, k3⟩ := one_box w2 ce ca hZ3 hW3
  have HZ3 := Lib.hid hZ3
  have HW3 := Lib.hid hW3
  have p0 := z3.cell 0
  have p1 := z3.cell 1
  have r0 := z3.frozen 0
  have r1 := z3.frozen 1
  have i0 := b3.cell 0
  have i1 := b3.cell 1
  have HB3 := Lib.hid (b3.kept (Kept.refl W3).drew)
  have HK3 := Lib.hid (HK1.out.trans (k2.trans k3))
  have HRB3 := Lib.hid (HRB.out.kept (k2.trans k3))
  clear z3 b3 hZ3 hW3 k2 k3
  go_wp2_with (first | rw [HZ3.out] | rw [HW3.out])
  clear p0 p1 r0 r1 i0 i1
  have x0 := HRB3.out.cell 0
  have x1 := HRB3.out.cell 1
  have f0 := HRB3.out.frozen 0
  have f1 := HRB3.out.frozen 1
  refine wp_region_till (S := (fun W => W.cell? ⟨w2.heap.size, 0, none⟩ = some (.int .i64 ce) ∧ W.cell? ⟨w2.heap.size, 1, none⟩ = some (.int .i64 ca))) 2 (by kernel_rfl) ⟨HB3.out.cell 0, HB3.out.cell 1⟩ (fun hHeld0 => ?_)
  refine wpAnyT_take (i := 0) (v := ?_) rfl (by kernel_rfl) (by kernel_rfl) (by kernel_rfl) (fun _ _ _ h => h) (Or.inl ⟨by kernel_rfl, ?_⟩) (by assumption) ?_
  rotate_left
  ·intro w hSw; (try dsimp only at hSw); go_simp; (try with_reducible rfl)
  (try simp only [Act.put, List.getElem_toArray, List.getElem_cons_zero, List.getElem_cons_succ, List.setIfInBounds_toArray, List.set_cons_zero, List.set_cons_succ])
  refine wpAnyT_take (i := 1) (v := ?_) rfl (by kernel_rfl) (by kernel_rfl) (by kernel_rfl) (fun _ _ _ h => h) (Or.inl ⟨by kernel_rfl, ?_⟩) (by assumption) ?_
  rotate_left
  ·intro w hSw; (try dsimp only at hSw); go_simp; (try with_reducible rfl)
  (try simp only [Act.put, List.getElem_toArray, List.getElem_cons_zero, List.getElem_cons_succ, List.setIfInBounds_toArray, List.set_cons_zero, List.set_cons_succ])
  refine wpAnyT_ready (rs := [2]) (by kernel_rfl) (by simp) ?_
  refine AllReadyT.fin rfl (fun K hK => ?_)
  go_simp
  refine hK.out _ _ ?_
  clear hK K
  (try simp only [Act.put, List.getElem_toArray, List.getElem_cons_zero, List.getElem_cons_succ, List.setIfInBounds_toArray, List.set_cons_zero, List.set_cons_succ])
  refine wpAnyT_done (by kernel_rfl) ?_ _
  clear hHeld0
  have hb := (fput_blk HRB3.out (.int .i64 ce) (.int .i64 ca)).kept (Kept.refl _).drew
  have hk7 := (HK3.out.only (fput_only W3 (w.heap.size + 1) (.int .i64 ce) (.int .i64 ca)) rfl (fun k hk => by omega)).drew
  go_wp2_with fail
  refine bodyPost_ret (tf_results (by rfl) _ _ rfl rfl hb) rfl (.inr ⟨HE.out, ?_, hk7⟩)
  rw [HCV.out.1, HCV.out.2]
  rfl
/-- What Print tells. -/
def printV (x : Nd) : Value :=
 if (checkE x).1 = 0 then
  if (Lx.joinB (toks x)).length ≤ 20000 then .tuple #[.string ⟨(Lx.joinB (toks x)).toArray⟩, .agg #[.int .i64 0, .int .i64 0]]
  else .tuple #[.string ⟨#[]⟩, .agg #[.int .i64 4, .int .i64 0]]
 else .tuple #[.string ⟨#[]⟩, .agg #[.int .i64 (checkE x).1, .int .i64 (checkE x).2]]
set_option maxHeartbeats 8000000 in
theorem pprint_c (x : Nd) (ad : Option Addr) (ck : Nat) (w : World) (hT : Tb w) (hP : Pw w) (hEr : Er w) (hok : x.ok1) (hk : KidsAt w (.slice ad x.kids.length ck) x.kids) (hcnt : x.count ≤ 1000000000) (hsum : (checkE x).1 = 0 → (Lx.joinB (toks x)).length ≤ 900000) :
  Calls Tryz.prog 12 #[ndV x (.slice ad x.kids.length ck)] w fun e w' => e = .returned (printV x) ∧ Kept w w' := by
 obtain ⟨W1, hW1⟩ : ∃ W1, (w.alloc (.cells #[.int .i64 x.kind, .string x.text, .string x.typ, .string x.frm, .int .i64 x.n, .slice ad x.kids.length ck] 24)).alloc (.cells #[.int .i64 0, .int .i64 0] 32) = W1 := ⟨_, rfl⟩
 have k1 : Kept w W1 := by rw [← hW1]; exact ((Kept.refl w).alloc _).alloc _
 have hbx : Blk W1 w.heap.size 24 #[.int .i64 x.kind, .string x.text, .string x.typ, .string x.frm, .int .i64 x.n, .slice ad x.kids.length ck] := by rw [← hW1]; exact (Blk.new _ _ _).alloc _
 have hrb : Blk W1 (w.heap.size + 1) 32 #[.int .i64 0, .int .i64 0] := by rw [← hW1]; exact Blk.at (by simp)
 have HC := Lib.hid (ptoks_c x ad ck W1 (hT.kept k1) hok (KidsD.kept hk k1) hcnt)
 have HK1 := Lib.hid k1
 have HRB := Lib.hid hrb
 have HW1 := Lib.hid hW1
 have HTB := Lib.hid (hT.kept k1)
 have HPW := Lib.hid (hP.kept k1)
 have HER := Lib.hid (hEr.kept k1)
 have HSM := Lib.hid hsum
 have y0 := hbx.cell 0
 have y1 := hbx.cell 1
 have y2 := hbx.cell 2
 have y3 := hbx.cell 3
 have y4 := hbx.cell 4
 have y5 := hbx.cell 5
 clear hW1 k1 hbx hrb hk hT hcnt hP hEr hsum hok
 go_enter Tryz.func12, Tryz.ntmps12
 go_wp2_with (rw [HW1.out])
 refine HC.out.mono ?_
 rintro e w2 (⟨hE, ⟨a2, c2, rfl, ht⟩, k2⟩ | ⟨hE, rfl, k2⟩)
 ·clear HC HW1 y0 y1 y2 y3 y4 y5
  have HV := Lib.hid (show printV x = (if (Lx.joinB (toks x)).length ≤ 20000 then .tuple #[.string ⟨(Lx.joinB (toks x)).toArray⟩, .agg #[.int .i64 0, .int .i64 0]] else .tuple #[.string ⟨#[]⟩, .agg #[.int .i64 4, .int .i64 0]]) from if_pos hE)
  have hall := toks_ok x (check_wf hE).1
  obtain ⟨Z3, hZ3⟩ : ∃ Z, w2.alloc (.cells #[.int .i64 0, .int .i64 0] 32) = Z := ⟨_, rfl⟩
  obtain ⟨W3, hW3⟩ : ∃ Z, (Z3.setCell ⟨w2.heap.size, 0, none⟩ (.int .i64 0)).setCell ⟨w2.heap.size, 1, none⟩ (.int .i64 0) = Z := ⟨_, rfl⟩
  obtain ⟨z3, b3, k3⟩ := one_box w2 0 0 hZ3 hW3
  have HJN := Lib.hid (join_c (toks x) a2 c2 W3 (tks_kept ht k3) (HTB.out.kept (k2.trans k3)) (HPW.out.kept (k2.trans k3)) (HER.out.kept (k2.trans k3)) (fun t ht => tok_okT (hall t ht)) (HSM.out hE))
  rw [show (toks x).all Lx.isTok = true from List.all_eq_true.2 hall] at HJN
  have HJN := Lib.hid (show Calls Tryz.prog 23 #[.slice a2 (toks x).length c2] W3 fun e w' => e = .returned (.tuple #[.string ⟨(Lx.joinB (toks x)).toArray⟩, .int .i64 0]) ∧ Kept W3 w' from HJN.out)
  obtain ⟨s, hs⟩ : ∃ s : ByteArray, ⟨(Lx.joinB (toks x)).toArray⟩ = s := ⟨_, rfl⟩
  have hsz : s.size = (Lx.joinB (toks x)).length := by rw [← hs]; simp [ByteArray.size]
  rw [← hsz, hs] at HV
  rw [hs] at HJN
  have HZ3 := Lib.hid hZ3
  have HW3 := Lib.hid hW3
  have p0 := z3.cell 0
  have p1 := z3.cell 1
  have r0 := z3.frozen 0
  have r1 := z3.frozen 1
  have i0 := b3.cell 0
  have i1 := b3.cell 1
  have HK3 := Lib.hid (k2.trans k3)
  clear z3 b3 hZ3 hW3 k2 k3 hs hsz hall ht hE HSM HTB HPW HER
  go_wp2_with (first | rw [HZ3.out] | rw [HW3.out])
  clear p0 p1 r0 r1 i0 i1
  refine HJN.out.mono ?_
  rintro e w4 ⟨rfl, k4⟩
  have HK4 := Lib.hid (HK1.out.trans (HK3.out.trans k4))
  have HRB4 := Lib.hid (HRB.out.kept (HK3.out.trans k4))
  have x0 := HRB4.out.cell 0
  have x1 := HRB4.out.cell 1
  have f0 := HRB4.out.frozen 0
  have f1 := HRB4.out.frozen 1
  clear k4
  by_cases hl : s.size ≤ 20000
  ·have hlI : ¬ (20000 : Int) < (s.size : Int) := by omega
   have HE := Lib.hid (show printV x = .tuple #[.string s, .agg #[.int .i64 0, .int .i64 0]] by rw [HV.out, if_pos hl])
   clear hl
   go_wp2_with fail
   exact bodyPost_ret (tf_results (by rfl) _ _ rfl rfl (fput_blk HRB4.out _ _)) rfl ⟨by rw [HE.out]; rfl, HK4.out.only (fput_only _ _ _ _) rfl (fun k hk => by omega)⟩
  ·have hlI : (20000 : Int) < (s.size : Int) := by omega
   have HE := Lib.hid (show printV x = .tuple #[.string ⟨#[]⟩, .agg #[.int .i64 4, .int .i64 0]] by rw [HV.out, if_neg hl])
   clear hl
   go_wp2_with fail
   exact bodyPost_ret (tf_results (by rfl) _ _ rfl rfl (fput_blk HRB4.out _ _)) rfl ⟨by rw [HE.out]; rfl, HK4.out.only (fput_only _ _ _ _) rfl (fun k hk => by omega)⟩
 ·clear HC HW1 y0 y1 y2 y3 y4 y5
  have HV := Lib.hid (show printV x = .tuple #[.string ⟨#[]⟩, .agg #[.int .i64 (checkE x).1, .int .i64 (checkE x).2]] from if_neg hE)
  obtain ⟨ce, hce⟩ : ∃ ce, (checkE x).1 = ce := ⟨_, rfl⟩
  obtain ⟨ca, hca⟩ : ∃ ca, (checkE x).2 = ca := ⟨_, rfl⟩
  rw [hce, hca] at HV ⊢
  rw [hce] at hE
  have hEb : (ce != 0) = true := by simp [hE]
  clear hce hca
  obtain ⟨Z3, hZ3⟩ : ∃ Z, w2.alloc (.cells #[.int .i64 0, .int .i64 0] 32) = Z := ⟨_, rfl⟩
  obtain ⟨W3, hW3⟩ : ∃ Z, (Z3.setCell ⟨w2.heap.size, 0, none⟩ (.int .i64 ce)).setCell ⟨w2.heap.size, 1, none⟩ (.int .i64 ca) = Z := ⟨_, rfl⟩
  obtain ⟨z3, b3, k3⟩ := one_box w2 ce ca hZ3 hW3
  have HZ3 := Lib.hid hZ3
  have HW3 := Lib.hid hW3
  have p0 := z3.cell 0
  have p1 := z3.cell 1
  have r0 := z3.frozen 0
  have r1 := z3.frozen 1
  have i0 := b3.cell 0
  have i1 := b3.cell 1
  have HB3 := Lib.hid (b3.kept (Kept.refl W3).drew)
  have HK3 := Lib.hid (HK1.out.trans (k2.trans k3))
  have HRB3 := Lib.hid (HRB.out.kept (k2.trans k3))
  clear z3 b3 hZ3 hW3 k2 k3 HSM HTB HPW HER
  go_wp2_with (first | rw [HZ3.out] | rw [HW3.out])
  clear p0 p1 r0 r1 i0 i1
  have x0 := HRB3.out.cell 0
  have x1 := HRB3.out.cell 1
  have f0 := HRB3.out.frozen 0
  have f1 := HRB3.out.frozen 1
  refine wp_region_till (S := (fun W => W.cell? ⟨w2.heap.size, 0, none⟩ = some (.int .i64 ce) ∧ W.cell? ⟨w2.heap.size, 1, none⟩ = some (.int .i64 ca))) 2 (by kernel_rfl) ⟨HB3.out.cell 0, HB3.out.cell 1⟩ (fun hHeld0 => ?_)
  refine wpAnyT_take (i := 0) (v := ?_) rfl (by kernel_rfl) (by kernel_rfl) (by kernel_rfl) (fun _ _ _ h => h) (Or.inl ⟨by kernel_rfl, ?_⟩) (by assumption) ?_
  rotate_left
  ·intro w hSw; (try dsimp only at hSw); go_simp; (try with_reducible rfl)
  (try simp only [Act.put, List.getElem_toArray, List.getElem_cons_zero, List.getElem_cons_succ, List.setIfInBounds_toArray, List.set_cons_zero, List.set_cons_succ])
  refine wpAnyT_take (i := 1) (v := ?_) rfl (by kernel_rfl) (by kernel_rfl) (by kernel_rfl) (fun _ _ _ h => h) (Or.inl ⟨by kernel_rfl, ?_⟩) (by assumption) ?_
  rotate_left
  ·intro w hSw; (try dsimp only at hSw); go_simp; (try with_reducible rfl)
  (try simp only [Act.put, List.getElem_toArray, List.getElem_cons_zero, List.getElem_cons_succ, List.setIfInBounds_toArray, List.set_cons_zero, List.set_cons_succ])
  refine wpAnyT_ready (rs := [2]) (by kernel_rfl) (by simp) ?_
  refine AllReadyT.fin rfl (fun K hK => ?_)
  go_simp
  refine hK.out _ _ ?_
  clear hK K
  (try simp only [Act.put, List.getElem_toArray, List.getElem_cons_zero, List.getElem_cons_succ, List.setIfInBounds_toArray, List.set_cons_zero, List.set_cons_succ])
  refine wpAnyT_done (by kernel_rfl) ?_ _
  clear hHeld0
  have hb := (fput_blk HRB3.out (.int .i64 ce) (.int .i64 ca)).kept (Kept.refl _).drew
  have hk7 := (HK3.out.only (fput_only W3 (w.heap.size + 1) (.int .i64 ce) (.int .i64 ca)) rfl (fun k hk => by omega)).drew
  go_wp2_with fail
  refine bodyPost_ret (tf_results (by rfl) _ _ rfl rfl hb) rfl ⟨?_, hk7⟩
  rw [HV.out]
  rfl
end Go.Proofs.YtfpklgffdniegaaGreatDoor
namespace Go.Proofs.YtfpklgffdniegaaGreatDoor
open Go.ChangeShapes Go.WideShapes Go.ChangeAt Go.RowKit Go.Shelf
attribute [local go_sem] Oper.semAt_some
open Pr (toks)
/-- All that the walks read of the tables. -/
structure QTab (w : World) : Prop where
 tb : Tb w
 pw : Pw w
 er : Er w
theorem QTab.kept {w w' : World} (h : QTab w) (k : Kept w w') : QTab w' := ⟨h.tb.kept k, h.pw.kept k, h.er.kept k⟩
/-- A row of nodes in a block of one's own. -/
theorem row_kids {W : World} (ks : List (Nd × Value)) {cs : Array Value} {g n : Nat} (hb : Blk W g nT cs) (hn : n = ks.length) (hcs : cs = (ks.flatMap fun p => ndC p.1 p.2).toArray) (hm : ks.length ≤ 100) (h : ∀ q ∈ ks, Mk W q.1 q.2) :
  Ks W (.slice (some ⟨g, 0, none⟩) n n) (ks.map (·.1)) := by
 subst hn hcs
 refine ⟨_, ks.length, by rw [List.length_map], _, _, rfl, by rw [List.length_map]; exact Nat.le_refl _, by unfold maxLen; omega, fun i y hy => ⟨g, 0, rfl, ?_⟩⟩
 rw [List.getElem?_map] at hy
 obtain ⟨q, hq, rfl⟩ := Option.map_eq_some_iff.1 hy
 obtain ⟨hok, a, c, e, hk⟩ := h q (List.mem_of_getElem? hq)
 refine NdD.shut (ad := a) (c := c) (fun j u hu => ?_) hok hk trivial
 rw [← e] at hu
 have hj : j < 6 := by
  rcases Nat.lt_or_ge j 6 with h | h
  ·exact h
  ·rw [List.getElem?_eq_none (by rw [ndC_len]; exact h)] at hu; cases hu
 rw [hb.cell]
 have := (flat_at (fun p : Nd × Value => ndC p.1 p.2) ndC_len ks i j q hq hj).trans hu
 simpa [Nat.add_assoc] using this
theorem qnumber_c (k : Int) (w : World) : Calls Tryz.prog 10 #[.int .i64 k] w fun e w' => e = .returned (.agg #[.int .i64 7, .string ⟨#[]⟩, .string ⟨#[]⟩, .string ⟨#[]⟩, .int .i64 k, .slice none 0 0]) ∧ Kept w w' := by
 go_enter Tryz.func10, Tryz.ntmps10
 go_wp2_with fail
 exact bodyPost_ret (nd_results (x := .mk 7 ⟨#[]⟩ ⟨#[]⟩ ⟨#[]⟩ k []) (v := .slice none 0 0) (by rfl) _ _ rfl (Blk.new _ _ _)) rfl ⟨rfl, (Kept.refl w).alloc _⟩
theorem qon_c (k : Int) (t y : ByteArray) (a : Option Addr) (n c : Nat) (w : World) : Calls Tryz.prog 11 #[.int .i64 k, .string t, .string y, .slice a n c] w fun e w' => e = .returned (.agg #[.int .i64 k, .string t, .string y, .string ⟨#[]⟩, .int .i64 0, .slice a n c]) ∧ Kept w w' := by
 go_enter Tryz.func11, Tryz.ntmps11
 go_wp2_with fail
 exact bodyPost_ret (nd_results (x := .mk k t y ⟨#[]⟩ 0 []) (v := .slice a n c) (by rfl) _ _ rfl (Blk.new _ _ _)) rfl ⟨rfl, (Kept.refl w).alloc _⟩
set_option maxHeartbeats 4000000 in
theorem qtwo_c (t : ByteArray) (ht : t.size ≤ maxLen) (x y : Nd) (vx vy : Value) (w : World) (hx : Mk w x vx) (hy : Mk w y vy) :
  Calls Tryz.prog 9 #[.string t, ndV x vx, ndV y vy] w fun e w' => ∃ a n c, e = .returned (.agg #[.int .i64 25, .string t, .string ⟨#[]⟩, .string ⟨#[]⟩, .int .i64 0, .slice a n c]) ∧ Mk w' (Ps.nd 25 t Ps.e0 0 [x, y]) (.slice a n c) ∧ Kept w w' := by
 obtain ⟨W1, hW1⟩ : ∃ W, ((w.alloc (.cells (ndA x vx) nT)).alloc (.cells (ndA y vy) nT)).alloc (.cells pzN nT) = W := ⟨_, rfl⟩
 have k1 : Kept w W1 := by rw [← hW1]; exact (((Kept.refl _).alloc _).alloc _).alloc _
 have z1 : W1.heap.size = w.heap.size + 3 := by rw [← hW1]; simp
 have b1 : Blk W1 w.heap.size nT (ndA x vx) := by rw [← hW1]; exact ((Blk.new _ _ _).alloc _).alloc _
 have b2 : Blk W1 (w.heap.size + 1) nT (ndA y vy) := by rw [← hW1]; exact (blk_new (by simp)).alloc _
 have b3 : Blk W1 (w.heap.size + 2) nT pzN := by rw [← hW1]; exact blk_new (by simp)
 obtain ⟨W2, hW2⟩ : ∃ W, W1.alloc (.cells #[.int .i64 x.kind, .string x.text, .string x.typ, .string x.frm, .int .i64 x.n, vx, .int .i64 y.kind, .string y.text, .string y.typ, .string y.frm, .int .i64 y.n, vy] nT) = W := ⟨_, rfl⟩
 have k2 : Kept W1 W2 := by rw [← hW2]; exact (Kept.refl _).alloc _
 have c2 : Blk W2 W1.heap.size nT #[.int .i64 x.kind, .string x.text, .string x.typ, .string x.frm, .int .i64 x.n, vx, .int .i64 y.kind, .string y.text, .string y.typ, .string y.frm, .int .i64 y.n, vy] := by rw [← hW2]; exact Blk.new _ _ _
 obtain ⟨⟨x0, x1, x2, x3, x4, x5⟩, _⟩ := nd_six b1
 obtain ⟨⟨y0, y1, y2, y3, y4, y5⟩, _⟩ := nd_six b2
 obtain ⟨⟨q0, q1, q2, q3, q4, q5⟩, f0, f1, f2, f3, f4, f5⟩ := nd_six (b3.kept k2)
 have HP := Lib.hid (show ∀ W, W = put6n W2 (w.heap.size + 2) (Ps.nd 25 t Ps.e0 0 [x, y]) (.slice (some ⟨W1.heap.size, 0, none⟩) 2 2) → Blk W (w.heap.size + 2) nT (ndC (Ps.nd 25 t Ps.e0 0 [x, y]) (.slice (some ⟨W1.heap.size, 0, none⟩) 2 2)).toArray ∧ Mk W (Ps.nd 25 t Ps.e0 0 [x, y]) (.slice (some ⟨W1.heap.size, 0, none⟩) 2 2) ∧ Kept w W from by
  rintro W rfl
  have o := put6n_only W2 (w.heap.size + 2) (Ps.nd 25 t Ps.e0 0 [x, y]) (.slice (some ⟨W1.heap.size, 0, none⟩) 2 2)
  have kk := (k1.trans k2).only o rfl (fun k hk => by omega)
  exact ⟨put6n_blk (b3.kept k2) _ _, ⟨nd_ok1 _ _ _ _ _ (by decide) ht e0_size (by decide), row_kids [(x, vx), (y, vy)] (c2.only o (by omega)) rfl rfl (by simp) (fun q hq => by
   simp only [List.mem_cons, List.not_mem_nil, or_false] at hq
   rcases hq with rfl | rfl
   ·exact hx.kept kk
   ·exact hy.kept kk)⟩, kk⟩)
 have HW1 := Lib.hid hW1
 have HW2 := Lib.hid hW2
 clear hW1 hW2 k1 z1 b1 b2 b3 k2 c2 hx hy ht
 go_enter Tryz.func9, Tryz.ntmps9
 go_wp2_with (first | rw [HW1.out] | rw [HW2.out])
 obtain ⟨h1, h2, h3⟩ := HP.out _ rfl
 exact bodyPost_ret (nd_results (by rfl) _ _ rfl h1) rfl ⟨_, _, _, rfl, h2, h3⟩
def progN (l : List Nd) : Nd := Ps.nd 1 Ps.e0 Ps.e0 0 [Ps.nd 6 Ps.e0 Ps.e0 0 l]
set_option maxHeartbeats 4000000 in
theorem qprogram_c (a : Option Addr) (n c : Nat) (l : List Nd) (w : World) (hl : Ks w (.slice a n c) l) :
  Calls Tryz.prog 8 #[.slice a n c] w fun e w' => ∃ a' n' c', e = .returned (.agg #[.int .i64 1, .string ⟨#[]⟩, .string ⟨#[]⟩, .string ⟨#[]⟩, .int .i64 0, .slice a' n' c']) ∧ Mk w' (progN l) (.slice a' n' c') ∧ Kept w w' := by
 obtain ⟨W1, hW1⟩ : ∃ W, w.alloc (.cells pzN nT) = W := ⟨_, rfl⟩
 have k1 : Kept w W1 := by rw [← hW1]; exact (Kept.refl _).alloc _
 have z1 : W1.heap.size = w.heap.size + 1 := by rw [← hW1]; simp
 have b1 : Blk W1 w.heap.size nT pzN := by rw [← hW1]; exact Blk.new _ _ _
 obtain ⟨W2, hW2⟩ : ∃ W, W1.alloc (.cells #[.int .i64 6, .string ⟨#[]⟩, .string ⟨#[]⟩, .string ⟨#[]⟩, .int .i64 0, .slice a n c] nT) = W := ⟨_, rfl⟩
 have k2 : Kept W1 W2 := by rw [← hW2]; exact (Kept.refl _).alloc _
 have c2 : Blk W2 W1.heap.size nT #[.int .i64 6, .string ⟨#[]⟩, .string ⟨#[]⟩, .string ⟨#[]⟩, .int .i64 0, .slice a n c] := by rw [← hW2]; exact Blk.new _ _ _
 obtain ⟨⟨q0, q1, q2, q3, q4, q5⟩, f0, f1, f2, f3, f4, f5⟩ := nd_six (b1.kept k2)
 have HP := Lib.hid (show ∀ W, W = put6n W2 w.heap.size (progN l) (.slice (some ⟨W1.heap.size, 0, none⟩) 1 1) → Blk W w.heap.size nT (ndC (progN l) (.slice (some ⟨W1.heap.size, 0, none⟩) 1 1)).toArray ∧ Mk W (progN l) (.slice (some ⟨W1.heap.size, 0, none⟩) 1 1) ∧ Kept w W from by
  rintro W rfl
  have o := put6n_only W2 w.heap.size (progN l) (.slice (some ⟨W1.heap.size, 0, none⟩) 1 1)
  have kk := (k1.trans k2).only o rfl (fun k hk => by omega)
  exact ⟨put6n_blk (b1.kept k2) _ _, ⟨nd_ok1 _ _ _ _ _ (by decide) e0_size e0_size (by decide), row_kids [(Ps.nd 6 Ps.e0 Ps.e0 0 l, .slice a n c)] (c2.only o (by omega)) rfl rfl (by simp) (fun q hq => by
   simp only [List.mem_cons, List.not_mem_nil, or_false] at hq
   subst hq
   exact ⟨nd_ok1 _ _ _ _ _ (by decide) e0_size e0_size (by decide), hl.kept kk⟩)⟩, kk⟩)
 have HW1 := Lib.hid hW1
 have HW2 := Lib.hid hW2
 clear hW1 hW2 k1 z1 b1 k2 c2 hl
 go_enter Tryz.func8, Tryz.ntmps8
 go_wp2_with (first | rw [HW1.out] | rw [HW2.out])
 obtain ⟨h1, h2, h3⟩ := HP.out _ rfl
 exact bodyPost_ret (nd_results (by rfl) _ _ rfl h1) rfl ⟨_, _, _, rfl, h2, h3⟩
set_option maxHeartbeats 4000000 in
theorem prints_c (s : ByteArray) (x : Nd) (v : Value) (w : World) (hT : QTab w) (hv : Mk w x v) (hce : (checkE x).1 = 0) (hj : Lx.joinB (toks x) = s.data.toList) (hs : s.size ≤ 20000) (hc : x.count ≤ 1000000000) :
  Calls Tryz.prog 7 #[ndV x v, .string s] w fun e w' => e = .returned (.bool true) ∧ Kept w w' := by
 obtain ⟨W1, hW1⟩ : ∃ W, w.alloc (.cells (ndA x v) nT) = W := ⟨_, rfl⟩
 have k1 : Kept w W1 := by rw [← hW1]; exact (Kept.refl _).alloc _
 have b1 : Blk W1 w.heap.size nT (ndA x v) := by rw [← hW1]; exact Blk.new _ _ _
 obtain ⟨av, cv, e, hk⟩ := hv.kids
 subst e
 have hl : s.data.toList.length = s.size := by rw [Array.length_toList]; rfl
 have hsv : (⟨(Lx.joinB (toks x)).toArray⟩ : ByteArray) = s := by rw [hj]
 have hpv : printV x = .tuple #[.string s, .agg #[.int .i64 0, .int .i64 0]] := by
  unfold printV
  rw [if_pos hce, if_pos (by rw [hj]; omega), hsv]
 have HPR := Lib.hid (pprint_c x av cv W1 (hT.kept k1).tb (hT.kept k1).pw (hT.kept k1).er hv.ok (KidsD.kept hk k1) hc (fun _ => by rw [hj]; omega))
 rw [hpv] at HPR
 obtain ⟨⟨x0, x1, x2, x3, x4, x5⟩, _⟩ := nd_six b1
 have HK1 := Lib.hid k1
 have HW1 := Lib.hid hW1
 have hq := fun W => eqF 0 0 0 0 W
 clear hW1 k1 b1 hk hl hsv hpv hv hT hce hj hs hc
 go_enter Tryz.func7, Tryz.ntmps7
 go_wp2_with (rw [HW1.out])
 refine HPR.out.mono ?_
 rintro e w2 ⟨rfl, k2⟩
 obtain ⟨Z3, hZ3⟩ : ∃ Z, w2.alloc (.cells #[.int .i64 0, .int .i64 0] 32) = Z := ⟨_, rfl⟩
 obtain ⟨W3, hW3⟩ : ∃ Z, (Z3.setCell ⟨w2.heap.size, 0, none⟩ (.int .i64 0)).setCell ⟨w2.heap.size, 1, none⟩ (.int .i64 0) = Z := ⟨_, rfl⟩
 obtain ⟨z3, b3, k3⟩ := one_box w2 0 0 hZ3 hW3
 have HZ3 := Lib.hid hZ3
 have HW3 := Lib.hid hW3
 have p0 := z3.cell 0
 have p1 := z3.cell 1
 have r0 := z3.frozen 0
 have r1 := z3.frozen 1
 have i0 := b3.cell 0
 have i1 := b3.cell 1
 have HK3 := Lib.hid (HK1.out.trans (k2.trans k3))
 clear z3 b3 hZ3 hW3 k2 k3 HPR HW1 HK1 x0 x1 x2 x3 x4 x5
 go_wp2_with (first | rw [HZ3.out] | rw [HW3.out])
 go_ret
 exact ⟨rfl, HK3.out⟩
theorem keptA {w W : World} {o : Obj} (e : w.alloc o = W) : Kept w W := by rw [← e]; exact (Kept.refl _).alloc _
theorem mkn {w : World} (k : Int) (t y : ByteArray) (n : Int) (hk : 0 ≤ k ∧ k ≤ 40 := by decide) (ht : t.size ≤ maxLen := by decide) (hy : y.size ≤ maxLen := by decide) (hn : -9223372036854775808 ≤ n ∧ n ≤ 9223372036854775807 := by decide) : Mk w (Ps.nd k t y n []) (.slice none 0 0) := ⟨nd_ok1 _ _ _ _ _ hk ht hy hn, Ks.nil _⟩
theorem mkk {w : World} {v : Value} {l : List Nd} (h : Ks w v l) (k : Int) (t y : ByteArray) (hk : 0 ≤ k ∧ k ≤ 40 := by decide) (ht : t.size ≤ maxLen := by decide) (hy : y.size ≤ maxLen := by decide) : Mk w (Ps.nd k t y 0 l) v := ⟨nd_ok1 _ _ _ _ _ hk ht hy (by decide), h⟩
theorem lit1 {X W : World} {x : Nd} {v : Value} (h : Mk X x v) (e : X.alloc (.cells (ndA x v) nT) = W) : Ks W (.slice (some ⟨X.heap.size, 0, none⟩) 1 1) [x] := by
 rw [← e]
 exact lit_kids [(x, v)] rfl rfl rfl (by simp) (fun q hq => by rw [List.mem_singleton.1 hq]; exact h)
theorem lit2 {X W : World} {x y : Nd} {v u : Value} (h : Mk X x v) (h2 : Mk X y u) (e : X.alloc (.cells #[.int .i64 x.kind, .string x.text, .string x.typ, .string x.frm, .int .i64 x.n, v, .int .i64 y.kind, .string y.text, .string y.typ, .string y.frm, .int .i64 y.n, u] nT) = W) : Ks W (.slice (some ⟨X.heap.size, 0, none⟩) 2 2) [x, y] := by
 rw [← e]
 exact lit_kids [(x, v), (y, u)] rfl rfl rfl (by simp) (fun q hq => by
  simp only [List.mem_cons, List.not_mem_nil, or_false] at hq
  rcases hq with rfl | rfl
  ·exact h
  ·exact h2)
theorem prints_q (s : ByteArray) (x : Nd) (v : Value) (w : World) (hT : QTab w) (hv : Mk w x v) (q : (checkE x).1 = 0 ∧ Lx.joinB (toks x) = s.data.toList) (hs : s.size ≤ 20000 := by decide) :
  Calls Tryz.prog 7 #[ndV x v, .string s] w fun e w' => e = .returned (.bool true) ∧ Kept w w' :=
 prints_c s x v w hT hv q.1 q.2 hs (Nat.le_trans (check_wf q.1).2.2 (by decide))
end Go.Proofs.YtfpklgffdniegaaGreatDoor
namespace Go.Proofs.YtfpklgffdniegaaGreatDoor
open Go.ChangeShapes Go.WideShapes Go.ChangeAt Go.RowKit Go.Shelf
attribute [local go_sem] Oper.semAt_some
open Pr (toks)
abbrev N1 : Nd := Ps.nd 25 ⟨#[43]⟩ ⟨#[]⟩ 0 [(Ps.nd 7 ⟨#[]⟩ ⟨#[]⟩ 1 []), (Ps.nd 7 ⟨#[]⟩ ⟨#[]⟩ 2 [])]
abbrev N2 : Nd := Ps.nd 25 ⟨#[42]⟩ ⟨#[]⟩ 0 [N1, (Ps.nd 7 ⟨#[]⟩ ⟨#[]⟩ 3 [])]
abbrev N3 : Nd := progN [N2, (Ps.nd 11 ⟨#[]⟩ ⟨#[]⟩ 0 [])]
abbrev N4 : Nd := Ps.nd 24 ⟨#[33]⟩ ⟨#[]⟩ 0 [(Ps.nd 11 ⟨#[]⟩ ⟨#[]⟩ 0 [])]
abbrev N5 : Nd := Ps.nd 25 ⟨#[45]⟩ ⟨#[]⟩ 0 [(Ps.nd 7 ⟨#[]⟩ ⟨#[]⟩ 2 []), (Ps.nd 7 ⟨#[]⟩ ⟨#[]⟩ 3 [])]
abbrev N6 : Nd := Ps.nd 25 ⟨#[45]⟩ ⟨#[]⟩ 0 [(Ps.nd 7 ⟨#[]⟩ ⟨#[]⟩ 1 []), N5]
abbrev N7 : Nd := progN [N6]
abbrev N8 : Nd := Ps.nd 25 ⟨#[45]⟩ ⟨#[]⟩ 0 [(Ps.nd 7 ⟨#[]⟩ ⟨#[]⟩ 1 []), (Ps.nd 7 ⟨#[]⟩ ⟨#[]⟩ 2 [])]
abbrev N9 : Nd := Ps.nd 25 ⟨#[45]⟩ ⟨#[]⟩ 0 [N8, (Ps.nd 7 ⟨#[]⟩ ⟨#[]⟩ 3 [])]
abbrev N10 : Nd := progN [N9]
abbrev N11 : Nd := Ps.nd 28 ⟨#[]⟩ ⟨#[63]⟩ 0 [(Ps.nd 14 ⟨#[99]⟩ ⟨#[]⟩ 0 [])]
abbrev N12 : Nd := Ps.nd 18 ⟨#[98]⟩ ⟨#[]⟩ 0 [(Ps.nd 14 ⟨#[97]⟩ ⟨#[]⟩ 0 []), N11]
abbrev N13 : Nd := Ps.nd 24 ⟨#[45]⟩ ⟨#[]⟩ 0 [(Ps.nd 7 ⟨#[]⟩ ⟨#[]⟩ 1 [])]
abbrev N14 : Nd := Ps.nd 24 ⟨#[45]⟩ ⟨#[]⟩ 0 [N13]
abbrev N15 : Nd := Ps.nd 16 ⟨#[122]⟩ ⟨#[]⟩ 0 [N14]
abbrev N16 : Nd := Ps.nd 16 ⟨#[121]⟩ ⟨#[]⟩ 0 [N15]
abbrev N17 : Nd := Ps.nd 15 ⟨#[120]⟩ ⟨#[63]⟩ 0 [N16]
abbrev N18 : Nd := progN [N12]
abbrev N19 : Nd := progN [N17]
abbrev N20 : Nd := Ps.nd 16 ⟨#[120]⟩ ⟨#[]⟩ 0 [(Ps.nd 11 ⟨#[]⟩ ⟨#[]⟩ 0 [])]
theorem qx1 : (checkE (progN [])).1 = 0 ∧ Lx.joinB (toks (progN [])) = (⟨#[109, 97, 105, 110, 32, 123, 32, 125]⟩ : ByteArray).data.toList := ⟨by kernel_rfl, by kernel_rfl⟩
theorem qx2 : (checkE N3).1 = 0 ∧ Lx.joinB (toks N3) = (⟨#[109, 97, 105, 110, 32, 123, 32, 40, 32, 49, 32, 43, 32, 50, 32, 41, 32, 42, 32, 51, 32, 59, 32, 40, 32, 41, 32, 125]⟩ : ByteArray).data.toList := ⟨by kernel_rfl, by kernel_rfl⟩
theorem qx3 : (checkE N7).1 = 0 ∧ Lx.joinB (toks N7) = (⟨#[109, 97, 105, 110, 32, 123, 32, 49, 32, 45, 32, 40, 32, 50, 32, 45, 32, 51, 32, 41, 32, 125]⟩ : ByteArray).data.toList := ⟨by kernel_rfl, by kernel_rfl⟩
theorem qx4 : (checkE N10).1 = 0 ∧ Lx.joinB (toks N10) = (⟨#[109, 97, 105, 110, 32, 123, 32, 49, 32, 45, 32, 50, 32, 45, 32, 51, 32, 125]⟩ : ByteArray).data.toList := ⟨by kernel_rfl, by kernel_rfl⟩
theorem qx5 : (checkE N18).1 = 0 ∧ Lx.joinB (toks N18) = (⟨#[109, 97, 105, 110, 32, 123, 32, 97, 32, 46, 32, 98, 32, 61, 32, 40, 32, 99, 32, 58, 32, 63, 32, 41, 32, 125]⟩ : ByteArray).data.toList := ⟨by kernel_rfl, by kernel_rfl⟩
theorem qx6 : (checkE N19).1 = 0 ∧ Lx.joinB (toks N19) = (⟨#[109, 97, 105, 110, 32, 123, 32, 108, 101, 116, 32, 120, 32, 61, 32, 121, 32, 61, 32, 122, 32, 61, 32, 45, 32, 45, 32, 49, 32, 125]⟩ : ByteArray).data.toList := ⟨by kernel_rfl, by kernel_rfl⟩
theorem qx7 : (checkE (Ps.nd 6 ⟨#[]⟩ ⟨#[]⟩ 0 [])).1 = 5 := by kernel_rfl
theorem qx8 : printV (Ps.nd 6 ⟨#[]⟩ ⟨#[]⟩ 0 []) = .tuple #[.string ⟨#[]⟩, .agg #[.int .i64 5, .int .i64 0]] := by kernel_rfl
set_option maxHeartbeats 16000000 in
theorem qawake_c (w : World) (hT : QTab w) : Calls Tryz.prog 13 #[] w fun e w' => e = .returned (.bool true) ∧ Kept w w' := by
 have HTB := Lib.hid hT
 have HKK := Lib.hid (Kept.refl w)
 clear hT
 go_enter Tryz.func13, Tryz.ntmps13
 have hqf := fun (a b c d : Int) (W : World) => eqF a b c d W
 have Hun := Lib.hid (show Mk w (Ps.nd 11 ⟨#[]⟩ ⟨#[]⟩ 0 []) (.slice none 0 0) from ⟨nd_ok1 _ _ _ _ _ (by decide) (by decide) (by decide) (by decide), Ks.nil _⟩)
 obtain ⟨w1, hw1⟩ : ∃ V, w.alloc (.cells #[.int .i64 11, .string ⟨#[]⟩, .string ⟨#[]⟩, .string ⟨#[]⟩, .int .i64 0, .slice none 0 0] nT) = V := ⟨_, rfl⟩
 have k1 := keptA hw1
 have HBX := Lib.hid (show Blk w1 w.heap.size nT #[.int .i64 11, .string ⟨#[]⟩, .string ⟨#[]⟩, .string ⟨#[]⟩, .int .i64 0, .slice none 0 0] by rw [← hw1]; exact Blk.new _ _ _)
 replace Hun := Lib.hid (Hun.out.kept k1)
 replace HKK := Lib.hid (HKK.out.trans k1)
 have HWw1 := Lib.hid hw1
 clear hw1 k1
 go_wp2_with (rw [HWw1.out])
 obtain ⟨D0, hD0⟩ : ∃ D, w1.drew = D := ⟨_, rfl⟩
 have kd : Kept w1 D0 := by rw [← hD0]; exact (Kept.refl _).drew
 replace Hun := Lib.hid (Hun.out.kept kd)
 replace HBX := Lib.hid (HBX.out.kept kd)
 replace HKK := Lib.hid (HKK.out.trans kd)
 have HD0 := Lib.hid hD0
 clear kd hD0
 have hs0 := (nd_six HBX.out).1
 rw [← HD0.out] at hs0
 refine wp_region_held_drew (S := (fun W => W.cell? ⟨w.heap.size, 0, none⟩ = some (.int .i64 11) ∧ W.cell? ⟨w.heap.size, 1, none⟩ = some (.string ⟨#[]⟩) ∧ W.cell? ⟨w.heap.size, 2, none⟩ = some (.string ⟨#[]⟩) ∧ W.cell? ⟨w.heap.size, 3, none⟩ = some (.string ⟨#[]⟩) ∧ W.cell? ⟨w.heap.size, 4, none⟩ = some (.int .i64 0) ∧ W.cell? ⟨w.heap.size, 5, none⟩ = some (.slice none 0 0))) (by kernel_rfl) hs0 (fun hHeld0 => ?_)
 rw [HD0.out] at hHeld0 ⊢
 clear hs0
 refine wpAnyH_ready (rs := [0]) (by kernel_rfl) (by simp) ?_
 refine AllReadyH.cons rfl (fun K hK => ?_) AllReadyH.nil
 go_simp
 refine (qprogram_c _ _ _ [] _ (Ks.nil _)).mono ?_
 rintro e w2 ⟨a2, n2, c2, rfl, m2, k2⟩
 replace Hun := Lib.hid (Hun.out.kept k2)
 replace HBX := Lib.hid (HBX.out.kept k2)
 replace HKK := Lib.hid (HKK.out.trans k2)
 have Hp1 := Lib.hid (show Mk w2 (progN []) (.slice a2 n2 c2) from m2)
 clear m2
 refine hK.out _ _ ((nd_six HBX.out).1) (fun hHeld2 => ?_)
 clear hK K
 (try simp only [Act.put, List.getElem_toArray, List.getElem_cons_zero, List.getElem_cons_succ, List.setIfInBounds_toArray, List.set_cons_zero, List.set_cons_succ])
 clear k2 hHeld0
 refine wpAnyH_ready (rs := [1]) (by kernel_rfl) (by simp) ?_
 refine AllReadyH.cons rfl (fun K hK => ?_) AllReadyH.nil
 go_simp
 refine (prints_q ⟨#[109, 97, 105, 110, 32, 123, 32, 125]⟩ (progN []) (.slice a2 n2 c2) _ (HTB.out.kept HKK.out) Hp1.out qx1).mono ?_
 rintro e w3 ⟨rfl, k3⟩
 replace Hun := Lib.hid (Hun.out.kept k3)
 replace HBX := Lib.hid (HBX.out.kept k3)
 replace Hp1 := Lib.hid (Hp1.out.kept k3)
 replace HKK := Lib.hid (HKK.out.trans k3)
 refine hK.out _ _ ((nd_six HBX.out).1) (fun hHeld3 => ?_)
 clear hK K
 (try simp only [Act.put, List.getElem_toArray, List.getElem_cons_zero, List.getElem_cons_succ, List.setIfInBounds_toArray, List.set_cons_zero, List.set_cons_succ])
 clear k3 hHeld2
 refine wpAnyH_take (i := 2) (v := ?_) rfl (by kernel_rfl) (by kernel_rfl) (by kernel_rfl) (fun _ _ _ h => h) (Or.inl ⟨by kernel_rfl, ?_⟩) (by assumption) ?_
 rotate_left
 ·intro w hSw; (try dsimp only at hSw); go_simp; (try with_reducible rfl)
 (try simp only [Act.put, List.getElem_toArray, List.getElem_cons_zero, List.getElem_cons_succ, List.setIfInBounds_toArray, List.set_cons_zero, List.set_cons_succ])
 refine wpAnyH_take (i := 8) (v := ?_) rfl (by kernel_rfl) (by kernel_rfl) (by kernel_rfl) (fun _ _ _ h => h) (Or.inl ⟨by kernel_rfl, ?_⟩) (by assumption) ?_
 rotate_left
 ·intro w hSw; (try dsimp only at hSw); go_simp; (try with_reducible rfl)
 (try simp only [Act.put, List.getElem_toArray, List.getElem_cons_zero, List.getElem_cons_succ, List.setIfInBounds_toArray, List.set_cons_zero, List.set_cons_succ])
 refine wpAnyH_ready (rs := [3]) (by kernel_rfl) (by simp) ?_
 refine AllReadyH.cons rfl (fun K hK => ?_) AllReadyH.nil
 go_simp
 refine (qnumber_c _ _).mono ?_
 rintro e w4 ⟨rfl, k4⟩
 replace Hun := Lib.hid (Hun.out.kept k4)
 replace HBX := Lib.hid (HBX.out.kept k4)
 replace Hp1 := Lib.hid (Hp1.out.kept k4)
 replace HKK := Lib.hid (HKK.out.trans k4)
 have Hn1 := Lib.hid (mkn (w := w4) 7 ⟨#[]⟩ ⟨#[]⟩ 1)
 refine hK.out _ _ ((nd_six HBX.out).1) (fun hHeld4 => ?_)
 clear hK K
 (try simp only [Act.put, List.getElem_toArray, List.getElem_cons_zero, List.getElem_cons_succ, List.setIfInBounds_toArray, List.set_cons_zero, List.set_cons_succ])
 clear k4 hHeld3
 refine wpAnyH_ready (rs := [4]) (by kernel_rfl) (by simp) ?_
 refine AllReadyH.cons rfl (fun K hK => ?_) AllReadyH.nil
 go_simp
 refine (qnumber_c _ _).mono ?_
 rintro e w5 ⟨rfl, k5⟩
 replace Hun := Lib.hid (Hun.out.kept k5)
 replace HBX := Lib.hid (HBX.out.kept k5)
 replace Hp1 := Lib.hid (Hp1.out.kept k5)
 replace Hn1 := Lib.hid (Hn1.out.kept k5)
 replace HKK := Lib.hid (HKK.out.trans k5)
 have Hn2 := Lib.hid (mkn (w := w5) 7 ⟨#[]⟩ ⟨#[]⟩ 2)
 refine hK.out _ _ ((nd_six HBX.out).1) (fun hHeld5 => ?_)
 clear hK K
 (try simp only [Act.put, List.getElem_toArray, List.getElem_cons_zero, List.getElem_cons_succ, List.setIfInBounds_toArray, List.set_cons_zero, List.set_cons_succ])
 clear k5 hHeld4
 refine wpAnyH_ready (rs := [5]) (by kernel_rfl) (by simp) ?_
 refine AllReadyH.cons rfl (fun K hK => ?_) AllReadyH.nil
 go_simp
 refine (qtwo_c ⟨#[43]⟩ (by decide) (Ps.nd 7 ⟨#[]⟩ ⟨#[]⟩ 1 []) (Ps.nd 7 ⟨#[]⟩ ⟨#[]⟩ 2 []) (.slice none 0 0) (.slice none 0 0) _ Hn1.out Hn2.out).mono ?_
 rintro e w6 ⟨a6, n6, c6, rfl, m6, k6⟩
 replace Hun := Lib.hid (Hun.out.kept k6)
 replace HBX := Lib.hid (HBX.out.kept k6)
 replace Hp1 := Lib.hid (Hp1.out.kept k6)
 replace Hn1 := Lib.hid (Hn1.out.kept k6)
 replace Hn2 := Lib.hid (Hn2.out.kept k6)
 replace HKK := Lib.hid (HKK.out.trans k6)
 have Hm1 := Lib.hid (show Mk w6 N1 (.slice a6 n6 c6) from m6)
 clear m6
 refine hK.out _ _ ((nd_six HBX.out).1) (fun hHeld6 => ?_)
 clear hK K
 (try simp only [Act.put, List.getElem_toArray, List.getElem_cons_zero, List.getElem_cons_succ, List.setIfInBounds_toArray, List.set_cons_zero, List.set_cons_succ])
 clear k6 hHeld5
 refine wpAnyH_ready (rs := [6]) (by kernel_rfl) (by simp) ?_
 refine AllReadyH.cons rfl (fun K hK => ?_) AllReadyH.nil
 go_simp
 refine (qnumber_c _ _).mono ?_
 rintro e w7 ⟨rfl, k7⟩
 replace Hun := Lib.hid (Hun.out.kept k7)
 replace HBX := Lib.hid (HBX.out.kept k7)
 replace Hp1 := Lib.hid (Hp1.out.kept k7)
 replace Hn1 := Lib.hid (Hn1.out.kept k7)
 replace Hn2 := Lib.hid (Hn2.out.kept k7)
 replace Hm1 := Lib.hid (Hm1.out.kept k7)
 replace HKK := Lib.hid (HKK.out.trans k7)
 have Hn3 := Lib.hid (mkn (w := w7) 7 ⟨#[]⟩ ⟨#[]⟩ 3)
 refine hK.out _ _ ((nd_six HBX.out).1) (fun hHeld7 => ?_)
 clear hK K
 (try simp only [Act.put, List.getElem_toArray, List.getElem_cons_zero, List.getElem_cons_succ, List.setIfInBounds_toArray, List.set_cons_zero, List.set_cons_succ])
 clear k7 hHeld6
 refine wpAnyH_ready (rs := [7]) (by kernel_rfl) (by simp) ?_
 refine AllReadyH.cons rfl (fun K hK => ?_) AllReadyH.nil
 go_simp
 refine (qtwo_c ⟨#[42]⟩ (by decide) N1 (Ps.nd 7 ⟨#[]⟩ ⟨#[]⟩ 3 []) (.slice a6 n6 c6) (.slice none 0 0) _ Hm1.out Hn3.out).mono ?_
 rintro e w8 ⟨a8, n8, c8, rfl, m8, k8⟩
 replace Hun := Lib.hid (Hun.out.kept k8)
 replace HBX := Lib.hid (HBX.out.kept k8)
 replace Hp1 := Lib.hid (Hp1.out.kept k8)
 replace Hn1 := Lib.hid (Hn1.out.kept k8)
 replace Hn2 := Lib.hid (Hn2.out.kept k8)
 replace Hm1 := Lib.hid (Hm1.out.kept k8)
 replace Hn3 := Lib.hid (Hn3.out.kept k8)
 replace HKK := Lib.hid (HKK.out.trans k8)
 have Hm2 := Lib.hid (show Mk w8 N2 (.slice a8 n8 c8) from m8)
 clear m8
 refine hK.out _ _ ((nd_six HBX.out).1) (fun hHeld8 => ?_)
 clear hK K
 (try simp only [Act.put, List.getElem_toArray, List.getElem_cons_zero, List.getElem_cons_succ, List.setIfInBounds_toArray, List.set_cons_zero, List.set_cons_succ])
 clear k8 hHeld7
 refine wpAnyH_ready (rs := [9]) (by kernel_rfl) (by simp) ?_
 refine AllReadyH.cons rfl (fun K hK => ?_) AllReadyH.nil
 obtain ⟨w9, hw9⟩ : ∃ V, w8.alloc (.cells #[.int .i64 25, .string ⟨#[42]⟩, .string ⟨#[]⟩, .string ⟨#[]⟩, .int .i64 0, .slice a8 n8 c8, .int .i64 11, .string ⟨#[]⟩, .string ⟨#[]⟩, .string ⟨#[]⟩, .int .i64 0, .slice none 0 0] nT) = V := ⟨_, rfl⟩
 have k9 := keptA hw9
 have Hl1 := Lib.hid (lit2 Hm2.out Hun.out hw9)
 replace Hun := Lib.hid (Hun.out.kept k9)
 replace HBX := Lib.hid (HBX.out.kept k9)
 replace Hp1 := Lib.hid (Hp1.out.kept k9)
 replace Hn1 := Lib.hid (Hn1.out.kept k9)
 replace Hn2 := Lib.hid (Hn2.out.kept k9)
 replace Hm1 := Lib.hid (Hm1.out.kept k9)
 replace Hn3 := Lib.hid (Hn3.out.kept k9)
 replace Hm2 := Lib.hid (Hm2.out.kept k9)
 replace HKK := Lib.hid (HKK.out.trans k9)
 have HWw9 := Lib.hid hw9
 clear hw9 k9
 go_simp
 rw [HWw9.out]
 refine hK.out _ _ ((nd_six HBX.out).1) (fun hHeld9 => ?_)
 clear hK K
 (try simp only [Act.put, List.getElem_toArray, List.getElem_cons_zero, List.getElem_cons_succ, List.setIfInBounds_toArray, List.set_cons_zero, List.set_cons_succ])
 clear hHeld8
 refine wpAnyH_ready (rs := [10]) (by kernel_rfl) (by simp) ?_
 refine AllReadyH.cons rfl (fun K hK => ?_) AllReadyH.nil
 go_simp
 refine (qprogram_c _ _ _ [N2, (Ps.nd 11 ⟨#[]⟩ ⟨#[]⟩ 0 [])] _ (Hl1.out)).mono ?_
 rintro e w10 ⟨a10, n10, c10, rfl, m10, k10⟩
 replace Hun := Lib.hid (Hun.out.kept k10)
 replace HBX := Lib.hid (HBX.out.kept k10)
 replace Hp1 := Lib.hid (Hp1.out.kept k10)
 replace Hn1 := Lib.hid (Hn1.out.kept k10)
 replace Hn2 := Lib.hid (Hn2.out.kept k10)
 replace Hm1 := Lib.hid (Hm1.out.kept k10)
 replace Hn3 := Lib.hid (Hn3.out.kept k10)
 replace Hm2 := Lib.hid (Hm2.out.kept k10)
 replace Hl1 := Lib.hid (Hl1.out.kept k10)
 replace HKK := Lib.hid (HKK.out.trans k10)
 have Hp2 := Lib.hid (show Mk w10 N3 (.slice a10 n10 c10) from m10)
 clear m10
 refine hK.out _ _ ((nd_six HBX.out).1) (fun hHeld10 => ?_)
 clear hK K
 (try simp only [Act.put, List.getElem_toArray, List.getElem_cons_zero, List.getElem_cons_succ, List.setIfInBounds_toArray, List.set_cons_zero, List.set_cons_succ])
 clear k10 hHeld9
 refine wpAnyH_ready (rs := [11]) (by kernel_rfl) (by simp) ?_
 refine AllReadyH.cons rfl (fun K hK => ?_) AllReadyH.nil
 go_simp
 refine (prints_q ⟨#[109, 97, 105, 110, 32, 123, 32, 40, 32, 49, 32, 43, 32, 50, 32, 41, 32, 42, 32, 51, 32, 59, 32, 40, 32, 41, 32, 125]⟩ N3 (.slice a10 n10 c10) _ (HTB.out.kept HKK.out) Hp2.out qx2).mono ?_
 rintro e w11 ⟨rfl, k11⟩
 replace Hun := Lib.hid (Hun.out.kept k11)
 replace HBX := Lib.hid (HBX.out.kept k11)
 replace Hp1 := Lib.hid (Hp1.out.kept k11)
 replace Hn1 := Lib.hid (Hn1.out.kept k11)
 replace Hn2 := Lib.hid (Hn2.out.kept k11)
 replace Hm1 := Lib.hid (Hm1.out.kept k11)
 replace Hn3 := Lib.hid (Hn3.out.kept k11)
 replace Hm2 := Lib.hid (Hm2.out.kept k11)
 replace Hl1 := Lib.hid (Hl1.out.kept k11)
 replace Hp2 := Lib.hid (Hp2.out.kept k11)
 replace HKK := Lib.hid (HKK.out.trans k11)
 refine hK.out _ _ ((nd_six HBX.out).1) (fun hHeld11 => ?_)
 clear hK K
 (try simp only [Act.put, List.getElem_toArray, List.getElem_cons_zero, List.getElem_cons_succ, List.setIfInBounds_toArray, List.set_cons_zero, List.set_cons_succ])
 clear k11 hHeld10
 refine wpAnyH_take (i := 12) (v := ?_) rfl (by kernel_rfl) (by kernel_rfl) (by kernel_rfl) (fun _ _ _ h => h) (Or.inl ⟨by kernel_rfl, ?_⟩) (by assumption) ?_
 rotate_left
 ·intro w hSw; (try dsimp only at hSw); go_simp; (try with_reducible rfl)
 (try simp only [Act.put, List.getElem_toArray, List.getElem_cons_zero, List.getElem_cons_succ, List.setIfInBounds_toArray, List.set_cons_zero, List.set_cons_succ])
 refine wpAnyH_take (i := 13) (v := ?_) rfl (by kernel_rfl) (by kernel_rfl) (by kernel_rfl) (fun _ _ _ h => h) (Or.inl ⟨by kernel_rfl, ?_⟩) (by assumption) ?_
 rotate_left
 ·intro w hSw; (try dsimp only at hSw); go_simp; (try with_reducible rfl)
 (try simp only [Act.put, List.getElem_toArray, List.getElem_cons_zero, List.getElem_cons_succ, List.setIfInBounds_toArray, List.set_cons_zero, List.set_cons_succ])
 refine wpAnyH_take (i := 14) (v := ?_) rfl (by kernel_rfl) (by kernel_rfl) (by kernel_rfl) (fun _ _ _ h => h) (Or.inl ⟨by kernel_rfl, ?_⟩) (by assumption) ?_
 rotate_left
 ·intro w hSw; (try dsimp only at hSw); go_simp; (try with_reducible rfl)
 (try simp only [Act.put, List.getElem_toArray, List.getElem_cons_zero, List.getElem_cons_succ, List.setIfInBounds_toArray, List.set_cons_zero, List.set_cons_succ])
 refine wpAnyH_ready (rs := [15]) (by kernel_rfl) (by simp) ?_
 refine AllReadyH.cons rfl (fun K hK => ?_) AllReadyH.nil
 obtain ⟨w12, hw12⟩ : ∃ V, w11.alloc (.cells #[.int .i64 11, .string ⟨#[]⟩, .string ⟨#[]⟩, .string ⟨#[]⟩, .int .i64 0, .slice none 0 0] nT) = V := ⟨_, rfl⟩
 have k12 := keptA hw12
 have Hl2 := Lib.hid (lit1 Hun.out hw12)
 replace Hun := Lib.hid (Hun.out.kept k12)
 replace HBX := Lib.hid (HBX.out.kept k12)
 replace Hp1 := Lib.hid (Hp1.out.kept k12)
 replace Hn1 := Lib.hid (Hn1.out.kept k12)
 replace Hn2 := Lib.hid (Hn2.out.kept k12)
 replace Hm1 := Lib.hid (Hm1.out.kept k12)
 replace Hn3 := Lib.hid (Hn3.out.kept k12)
 replace Hm2 := Lib.hid (Hm2.out.kept k12)
 replace Hl1 := Lib.hid (Hl1.out.kept k12)
 replace Hp2 := Lib.hid (Hp2.out.kept k12)
 replace HKK := Lib.hid (HKK.out.trans k12)
 have HWw12 := Lib.hid hw12
 clear hw12 k12
 go_simp
 rw [HWw12.out]
 refine hK.out _ _ ((nd_six HBX.out).1) (fun hHeld12 => ?_)
 clear hK K
 (try simp only [Act.put, List.getElem_toArray, List.getElem_cons_zero, List.getElem_cons_succ, List.setIfInBounds_toArray, List.set_cons_zero, List.set_cons_succ])
 clear hHeld11
 refine wpAnyH_ready (rs := [16]) (by kernel_rfl) (by simp) ?_
 refine AllReadyH.cons rfl (fun K hK => ?_) AllReadyH.nil
 go_simp
 refine (qon_c _ _ _ _ _ _ _).mono ?_
 rintro e w13 ⟨rfl, k13⟩
 replace Hun := Lib.hid (Hun.out.kept k13)
 replace HBX := Lib.hid (HBX.out.kept k13)
 replace Hp1 := Lib.hid (Hp1.out.kept k13)
 replace Hn1 := Lib.hid (Hn1.out.kept k13)
 replace Hn2 := Lib.hid (Hn2.out.kept k13)
 replace Hm1 := Lib.hid (Hm1.out.kept k13)
 replace Hn3 := Lib.hid (Hn3.out.kept k13)
 replace Hm2 := Lib.hid (Hm2.out.kept k13)
 replace Hl1 := Lib.hid (Hl1.out.kept k13)
 replace Hp2 := Lib.hid (Hp2.out.kept k13)
 replace Hl2 := Lib.hid (Hl2.out.kept k13)
 replace HKK := Lib.hid (HKK.out.trans k13)
 have Hu1 := Lib.hid (mkk Hl2.out 24 ⟨#[33]⟩ ⟨#[]⟩)
 refine hK.out _ _ ((nd_six HBX.out).1) (fun hHeld13 => ?_)
 clear hK K
 (try simp only [Act.put, List.getElem_toArray, List.getElem_cons_zero, List.getElem_cons_succ, List.setIfInBounds_toArray, List.set_cons_zero, List.set_cons_succ])
 clear k13 hHeld12
 refine wpAnyH_ready (rs := [17]) (by kernel_rfl) (by simp) ?_
 refine AllReadyH.cons rfl (fun K hK => ?_) AllReadyH.nil
 go_simp
 refine (level_cP N4 (.slice (some ⟨w11.heap.size, 0, none⟩) 1 1) _).mono ?_
 rintro e w14 ⟨rfl, k14⟩
 replace Hun := Lib.hid (Hun.out.kept k14)
 replace HBX := Lib.hid (HBX.out.kept k14)
 replace Hp1 := Lib.hid (Hp1.out.kept k14)
 replace Hn1 := Lib.hid (Hn1.out.kept k14)
 replace Hn2 := Lib.hid (Hn2.out.kept k14)
 replace Hm1 := Lib.hid (Hm1.out.kept k14)
 replace Hn3 := Lib.hid (Hn3.out.kept k14)
 replace Hm2 := Lib.hid (Hm2.out.kept k14)
 replace Hl1 := Lib.hid (Hl1.out.kept k14)
 replace Hp2 := Lib.hid (Hp2.out.kept k14)
 replace Hl2 := Lib.hid (Hl2.out.kept k14)
 replace Hu1 := Lib.hid (Hu1.out.kept k14)
 replace HKK := Lib.hid (HKK.out.trans k14)
 rw [show Pr.lv N4 = (7 : Int) from by decide +kernel]
 refine hK.out _ _ ((nd_six HBX.out).1) (fun hHeld14 => ?_)
 clear hK K
 (try simp only [Act.put, List.getElem_toArray, List.getElem_cons_zero, List.getElem_cons_succ, List.setIfInBounds_toArray, List.set_cons_zero, List.set_cons_succ])
 clear k14 hHeld13
 refine wpAnyH_take (i := 18) (v := ?_) rfl (by kernel_rfl) (by kernel_rfl) (by kernel_rfl) (fun _ _ _ h => h) (Or.inl ⟨by kernel_rfl, ?_⟩) (by assumption) ?_
 rotate_left
 ·intro w hSw; (try dsimp only at hSw); go_simp; (try with_reducible rfl)
 (try simp only [Act.put, List.getElem_toArray, List.getElem_cons_zero, List.getElem_cons_succ, List.setIfInBounds_toArray, List.set_cons_zero, List.set_cons_succ])
 refine wpAnyH_take (i := 19) (v := ?_) rfl (by kernel_rfl) (by kernel_rfl) (by kernel_rfl) (fun _ _ _ h => h) (Or.inl ⟨by kernel_rfl, ?_⟩) (by assumption) ?_
 rotate_left
 ·intro w hSw; (try dsimp only at hSw); go_simp; (try with_reducible rfl)
 (try simp only [Act.put, List.getElem_toArray, List.getElem_cons_zero, List.getElem_cons_succ, List.setIfInBounds_toArray, List.set_cons_zero, List.set_cons_succ])
 refine wpAnyH_take (i := 20) (v := ?_) rfl (by kernel_rfl) (by kernel_rfl) (by kernel_rfl) (fun _ _ _ h => h) (Or.inl ⟨by kernel_rfl, ?_⟩) (by assumption) ?_
 rotate_left
 ·intro w hSw; (try dsimp only at hSw); go_simp; (try with_reducible rfl)
 (try simp only [Act.put, List.getElem_toArray, List.getElem_cons_zero, List.getElem_cons_succ, List.setIfInBounds_toArray, List.set_cons_zero, List.set_cons_succ])
 refine wpAnyH_done (by kernel_rfl) ?_ _
 go_wp2_with fail
 go_ret
 exact ⟨rfl, HKK.out⟩
set_option maxHeartbeats 16000000 in
theorem qknown_c (w : World) (hT : QTab w) : Calls Tryz.prog 3 #[] w fun e w' => e = .returned (.bool true) ∧ Kept w w' := by
 have HTB := Lib.hid hT
 have HKK := Lib.hid (Kept.refl w)
 clear hT
 go_enter Tryz.func3, Tryz.ntmps3
 have hqf := fun (a b c d : Int) (W : World) => eqF a b c d W
 have Hun := Lib.hid (show Mk w (Ps.nd 11 ⟨#[]⟩ ⟨#[]⟩ 0 []) (.slice none 0 0) from ⟨nd_ok1 _ _ _ _ _ (by decide) (by decide) (by decide) (by decide), Ks.nil _⟩)
 obtain ⟨w1, hw1⟩ : ∃ V, w.alloc (.cells #[.int .i64 11, .string ⟨#[]⟩, .string ⟨#[]⟩, .string ⟨#[]⟩, .int .i64 0, .slice none 0 0] nT) = V := ⟨_, rfl⟩
 have k1 := keptA hw1
 have HBX := Lib.hid (show Blk w1 w.heap.size nT #[.int .i64 11, .string ⟨#[]⟩, .string ⟨#[]⟩, .string ⟨#[]⟩, .int .i64 0, .slice none 0 0] by rw [← hw1]; exact Blk.new _ _ _)
 replace Hun := Lib.hid (Hun.out.kept k1)
 replace HKK := Lib.hid (HKK.out.trans k1)
 have HWw1 := Lib.hid hw1
 clear hw1 k1
 go_wp2_with (rw [HWw1.out])
 refine (qnumber_c _ _).mono ?_
 rintro e w2 ⟨rfl, k2⟩
 replace Hun := Lib.hid (Hun.out.kept k2)
 replace HBX := Lib.hid (HBX.out.kept k2)
 replace HKK := Lib.hid (HKK.out.trans k2)
 have Hn1 := Lib.hid (mkn (w := w2) 7 ⟨#[]⟩ ⟨#[]⟩ 1)
 clear k2
 go_wp2_with fail
 refine (qnumber_c _ _).mono ?_
 rintro e w3 ⟨rfl, k3⟩
 replace Hun := Lib.hid (Hun.out.kept k3)
 replace HBX := Lib.hid (HBX.out.kept k3)
 replace Hn1 := Lib.hid (Hn1.out.kept k3)
 replace HKK := Lib.hid (HKK.out.trans k3)
 have Hn2 := Lib.hid (mkn (w := w3) 7 ⟨#[]⟩ ⟨#[]⟩ 2)
 clear k3
 go_wp2_with fail
 refine (qnumber_c _ _).mono ?_
 rintro e w4 ⟨rfl, k4⟩
 replace Hun := Lib.hid (Hun.out.kept k4)
 replace HBX := Lib.hid (HBX.out.kept k4)
 replace Hn1 := Lib.hid (Hn1.out.kept k4)
 replace Hn2 := Lib.hid (Hn2.out.kept k4)
 replace HKK := Lib.hid (HKK.out.trans k4)
 have Hn3 := Lib.hid (mkn (w := w4) 7 ⟨#[]⟩ ⟨#[]⟩ 3)
 clear k4
 go_wp2_with fail
 refine (qtwo_c ⟨#[45]⟩ (by decide) (Ps.nd 7 ⟨#[]⟩ ⟨#[]⟩ 2 []) (Ps.nd 7 ⟨#[]⟩ ⟨#[]⟩ 3 []) (.slice none 0 0) (.slice none 0 0) _ Hn2.out Hn3.out).mono ?_
 rintro e w5 ⟨a5, n5, c5, rfl, m5, k5⟩
 replace Hun := Lib.hid (Hun.out.kept k5)
 replace HBX := Lib.hid (HBX.out.kept k5)
 replace Hn1 := Lib.hid (Hn1.out.kept k5)
 replace Hn2 := Lib.hid (Hn2.out.kept k5)
 replace Hn3 := Lib.hid (Hn3.out.kept k5)
 replace HKK := Lib.hid (HKK.out.trans k5)
 have Hm1 := Lib.hid (show Mk w5 N5 (.slice a5 n5 c5) from m5)
 clear m5
 clear k5
 go_wp2_with fail
 refine (qtwo_c ⟨#[45]⟩ (by decide) (Ps.nd 7 ⟨#[]⟩ ⟨#[]⟩ 1 []) N5 (.slice none 0 0) (.slice a5 n5 c5) _ Hn1.out Hm1.out).mono ?_
 rintro e w6 ⟨a6, n6, c6, rfl, m6, k6⟩
 replace Hun := Lib.hid (Hun.out.kept k6)
 replace HBX := Lib.hid (HBX.out.kept k6)
 replace Hn1 := Lib.hid (Hn1.out.kept k6)
 replace Hn2 := Lib.hid (Hn2.out.kept k6)
 replace Hn3 := Lib.hid (Hn3.out.kept k6)
 replace Hm1 := Lib.hid (Hm1.out.kept k6)
 replace HKK := Lib.hid (HKK.out.trans k6)
 have Hm2 := Lib.hid (show Mk w6 N6 (.slice a6 n6 c6) from m6)
 clear m6
 clear k6
 go_wp2_with fail
 obtain ⟨w7, hw7⟩ : ∃ V, w6.alloc (.cells #[.int .i64 25, .string ⟨#[45]⟩, .string ⟨#[]⟩, .string ⟨#[]⟩, .int .i64 0, .slice a6 n6 c6] nT) = V := ⟨_, rfl⟩
 have k7 := keptA hw7
 have Hl1 := Lib.hid (lit1 Hm2.out hw7)
 replace Hun := Lib.hid (Hun.out.kept k7)
 replace HBX := Lib.hid (HBX.out.kept k7)
 replace Hn1 := Lib.hid (Hn1.out.kept k7)
 replace Hn2 := Lib.hid (Hn2.out.kept k7)
 replace Hn3 := Lib.hid (Hn3.out.kept k7)
 replace Hm1 := Lib.hid (Hm1.out.kept k7)
 replace Hm2 := Lib.hid (Hm2.out.kept k7)
 replace HKK := Lib.hid (HKK.out.trans k7)
 have HWw7 := Lib.hid hw7
 clear hw7 k7
 go_wp2_with (rw [HWw7.out])
 refine (qprogram_c _ _ _ [N6] _ (Hl1.out)).mono ?_
 rintro e w8 ⟨a8, n8, c8, rfl, m8, k8⟩
 replace Hun := Lib.hid (Hun.out.kept k8)
 replace HBX := Lib.hid (HBX.out.kept k8)
 replace Hn1 := Lib.hid (Hn1.out.kept k8)
 replace Hn2 := Lib.hid (Hn2.out.kept k8)
 replace Hn3 := Lib.hid (Hn3.out.kept k8)
 replace Hm1 := Lib.hid (Hm1.out.kept k8)
 replace Hm2 := Lib.hid (Hm2.out.kept k8)
 replace Hl1 := Lib.hid (Hl1.out.kept k8)
 replace HKK := Lib.hid (HKK.out.trans k8)
 have Hp3 := Lib.hid (show Mk w8 N7 (.slice a8 n8 c8) from m8)
 clear m8
 clear k8
 go_wp2_with fail
 refine (prints_q ⟨#[109, 97, 105, 110, 32, 123, 32, 49, 32, 45, 32, 40, 32, 50, 32, 45, 32, 51, 32, 41, 32, 125]⟩ N7 (.slice a8 n8 c8) _ (HTB.out.kept HKK.out) Hp3.out qx3).mono ?_
 rintro e w9 ⟨rfl, k9⟩
 replace Hun := Lib.hid (Hun.out.kept k9)
 replace HBX := Lib.hid (HBX.out.kept k9)
 replace Hn1 := Lib.hid (Hn1.out.kept k9)
 replace Hn2 := Lib.hid (Hn2.out.kept k9)
 replace Hn3 := Lib.hid (Hn3.out.kept k9)
 replace Hm1 := Lib.hid (Hm1.out.kept k9)
 replace Hm2 := Lib.hid (Hm2.out.kept k9)
 replace Hl1 := Lib.hid (Hl1.out.kept k9)
 replace Hp3 := Lib.hid (Hp3.out.kept k9)
 replace HKK := Lib.hid (HKK.out.trans k9)
 clear k9
 go_wp2_with fail
 refine (qnumber_c _ _).mono ?_
 rintro e w10 ⟨rfl, k10⟩
 replace Hun := Lib.hid (Hun.out.kept k10)
 replace HBX := Lib.hid (HBX.out.kept k10)
 replace HKK := Lib.hid (HKK.out.trans k10)
 have Ha1 := Lib.hid (mkn (w := w10) 7 ⟨#[]⟩ ⟨#[]⟩ 1)
 clear k10
 go_wp2_with fail
 refine (qnumber_c _ _).mono ?_
 rintro e w11 ⟨rfl, k11⟩
 replace Hun := Lib.hid (Hun.out.kept k11)
 replace HBX := Lib.hid (HBX.out.kept k11)
 replace Ha1 := Lib.hid (Ha1.out.kept k11)
 replace HKK := Lib.hid (HKK.out.trans k11)
 have Ha2 := Lib.hid (mkn (w := w11) 7 ⟨#[]⟩ ⟨#[]⟩ 2)
 clear k11
 go_wp2_with fail
 refine (qtwo_c ⟨#[45]⟩ (by decide) (Ps.nd 7 ⟨#[]⟩ ⟨#[]⟩ 1 []) (Ps.nd 7 ⟨#[]⟩ ⟨#[]⟩ 2 []) (.slice none 0 0) (.slice none 0 0) _ Ha1.out Ha2.out).mono ?_
 rintro e w12 ⟨a12, n12, c12, rfl, m12, k12⟩
 replace Hun := Lib.hid (Hun.out.kept k12)
 replace HBX := Lib.hid (HBX.out.kept k12)
 replace Ha1 := Lib.hid (Ha1.out.kept k12)
 replace Ha2 := Lib.hid (Ha2.out.kept k12)
 replace HKK := Lib.hid (HKK.out.trans k12)
 have Hb1 := Lib.hid (show Mk w12 N8 (.slice a12 n12 c12) from m12)
 clear m12
 clear k12
 go_wp2_with fail
 refine (qnumber_c _ _).mono ?_
 rintro e w13 ⟨rfl, k13⟩
 replace Hun := Lib.hid (Hun.out.kept k13)
 replace HBX := Lib.hid (HBX.out.kept k13)
 replace Ha1 := Lib.hid (Ha1.out.kept k13)
 replace Ha2 := Lib.hid (Ha2.out.kept k13)
 replace Hb1 := Lib.hid (Hb1.out.kept k13)
 replace HKK := Lib.hid (HKK.out.trans k13)
 have Ha3 := Lib.hid (mkn (w := w13) 7 ⟨#[]⟩ ⟨#[]⟩ 3)
 clear k13
 go_wp2_with fail
 refine (qtwo_c ⟨#[45]⟩ (by decide) N8 (Ps.nd 7 ⟨#[]⟩ ⟨#[]⟩ 3 []) (.slice a12 n12 c12) (.slice none 0 0) _ Hb1.out Ha3.out).mono ?_
 rintro e w14 ⟨a14, n14, c14, rfl, m14, k14⟩
 replace Hun := Lib.hid (Hun.out.kept k14)
 replace HBX := Lib.hid (HBX.out.kept k14)
 replace Ha1 := Lib.hid (Ha1.out.kept k14)
 replace Ha2 := Lib.hid (Ha2.out.kept k14)
 replace Hb1 := Lib.hid (Hb1.out.kept k14)
 replace Ha3 := Lib.hid (Ha3.out.kept k14)
 replace HKK := Lib.hid (HKK.out.trans k14)
 have Hb2 := Lib.hid (show Mk w14 N9 (.slice a14 n14 c14) from m14)
 clear m14
 clear k14
 go_wp2_with fail
 obtain ⟨w15, hw15⟩ : ∃ V, w14.alloc (.cells #[.int .i64 25, .string ⟨#[45]⟩, .string ⟨#[]⟩, .string ⟨#[]⟩, .int .i64 0, .slice a14 n14 c14] nT) = V := ⟨_, rfl⟩
 have k15 := keptA hw15
 have Hl2 := Lib.hid (lit1 Hb2.out hw15)
 replace Hun := Lib.hid (Hun.out.kept k15)
 replace HBX := Lib.hid (HBX.out.kept k15)
 replace Ha1 := Lib.hid (Ha1.out.kept k15)
 replace Ha2 := Lib.hid (Ha2.out.kept k15)
 replace Hb1 := Lib.hid (Hb1.out.kept k15)
 replace Ha3 := Lib.hid (Ha3.out.kept k15)
 replace Hb2 := Lib.hid (Hb2.out.kept k15)
 replace HKK := Lib.hid (HKK.out.trans k15)
 have HWw15 := Lib.hid hw15
 clear hw15 k15
 go_wp2_with (rw [HWw15.out])
 refine (qprogram_c _ _ _ [N9] _ (Hl2.out)).mono ?_
 rintro e w16 ⟨a16, n16, c16, rfl, m16, k16⟩
 replace Hun := Lib.hid (Hun.out.kept k16)
 replace HBX := Lib.hid (HBX.out.kept k16)
 replace Ha1 := Lib.hid (Ha1.out.kept k16)
 replace Ha2 := Lib.hid (Ha2.out.kept k16)
 replace Hb1 := Lib.hid (Hb1.out.kept k16)
 replace Ha3 := Lib.hid (Ha3.out.kept k16)
 replace Hb2 := Lib.hid (Hb2.out.kept k16)
 replace Hl2 := Lib.hid (Hl2.out.kept k16)
 replace HKK := Lib.hid (HKK.out.trans k16)
 have Hp4 := Lib.hid (show Mk w16 N10 (.slice a16 n16 c16) from m16)
 clear m16
 clear k16
 go_wp2_with fail
 refine (prints_q ⟨#[109, 97, 105, 110, 32, 123, 32, 49, 32, 45, 32, 50, 32, 45, 32, 51, 32, 125]⟩ N10 (.slice a16 n16 c16) _ (HTB.out.kept HKK.out) Hp4.out qx4).mono ?_
 rintro e w17 ⟨rfl, k17⟩
 replace Hun := Lib.hid (Hun.out.kept k17)
 replace HBX := Lib.hid (HBX.out.kept k17)
 replace Ha1 := Lib.hid (Ha1.out.kept k17)
 replace Ha2 := Lib.hid (Ha2.out.kept k17)
 replace Hb1 := Lib.hid (Hb1.out.kept k17)
 replace Ha3 := Lib.hid (Ha3.out.kept k17)
 replace Hb2 := Lib.hid (Hb2.out.kept k17)
 replace Hl2 := Lib.hid (Hl2.out.kept k17)
 replace Hp4 := Lib.hid (Hp4.out.kept k17)
 replace HKK := Lib.hid (HKK.out.trans k17)
 clear k17
 go_wp2_with fail
 refine (qon_c _ _ _ _ _ _ _).mono ?_
 rintro e w18 ⟨rfl, k18⟩
 replace Hun := Lib.hid (Hun.out.kept k18)
 replace HBX := Lib.hid (HBX.out.kept k18)
 replace HKK := Lib.hid (HKK.out.trans k18)
 have Hc1 := Lib.hid (mkn (w := w18) 14 ⟨#[97]⟩ ⟨#[]⟩ 0)
 clear k18
 go_wp2_with fail
 refine (qon_c _ _ _ _ _ _ _).mono ?_
 rintro e w19 ⟨rfl, k19⟩
 replace Hun := Lib.hid (Hun.out.kept k19)
 replace HBX := Lib.hid (HBX.out.kept k19)
 replace Hc1 := Lib.hid (Hc1.out.kept k19)
 replace HKK := Lib.hid (HKK.out.trans k19)
 have Hc2 := Lib.hid (mkn (w := w19) 14 ⟨#[99]⟩ ⟨#[]⟩ 0)
 clear k19
 go_wp2_with fail
 obtain ⟨w20, hw20⟩ : ∃ V, w19.alloc (.cells #[.int .i64 14, .string ⟨#[99]⟩, .string ⟨#[]⟩, .string ⟨#[]⟩, .int .i64 0, .slice none 0 0] nT) = V := ⟨_, rfl⟩
 have k20 := keptA hw20
 have Hd1 := Lib.hid (lit1 Hc2.out hw20)
 replace Hun := Lib.hid (Hun.out.kept k20)
 replace HBX := Lib.hid (HBX.out.kept k20)
 replace Hc1 := Lib.hid (Hc1.out.kept k20)
 replace Hc2 := Lib.hid (Hc2.out.kept k20)
 replace HKK := Lib.hid (HKK.out.trans k20)
 have HWw20 := Lib.hid hw20
 clear hw20 k20
 go_wp2_with (rw [HWw20.out])
 refine (qon_c _ _ _ _ _ _ _).mono ?_
 rintro e w21 ⟨rfl, k21⟩
 replace Hun := Lib.hid (Hun.out.kept k21)
 replace HBX := Lib.hid (HBX.out.kept k21)
 replace Hc1 := Lib.hid (Hc1.out.kept k21)
 replace Hc2 := Lib.hid (Hc2.out.kept k21)
 replace Hd1 := Lib.hid (Hd1.out.kept k21)
 replace HKK := Lib.hid (HKK.out.trans k21)
 have Hc3 := Lib.hid (mkk Hd1.out 28 ⟨#[]⟩ ⟨#[63]⟩)
 clear k21
 go_wp2_with fail
 obtain ⟨w22, hw22⟩ : ∃ V, w21.alloc (.cells #[.int .i64 14, .string ⟨#[97]⟩, .string ⟨#[]⟩, .string ⟨#[]⟩, .int .i64 0, .slice none 0 0, .int .i64 28, .string ⟨#[]⟩, .string ⟨#[63]⟩, .string ⟨#[]⟩, .int .i64 0, .slice (some ⟨w19.heap.size, 0, none⟩) 1 1] nT) = V := ⟨_, rfl⟩
 have k22 := keptA hw22
 have Hd2 := Lib.hid (lit2 Hc1.out Hc3.out hw22)
 replace Hun := Lib.hid (Hun.out.kept k22)
 replace HBX := Lib.hid (HBX.out.kept k22)
 replace Hc1 := Lib.hid (Hc1.out.kept k22)
 replace Hc2 := Lib.hid (Hc2.out.kept k22)
 replace Hd1 := Lib.hid (Hd1.out.kept k22)
 replace Hc3 := Lib.hid (Hc3.out.kept k22)
 replace HKK := Lib.hid (HKK.out.trans k22)
 have HWw22 := Lib.hid hw22
 clear hw22 k22
 go_wp2_with (rw [HWw22.out])
 refine (qon_c _ _ _ _ _ _ _).mono ?_
 rintro e w23 ⟨rfl, k23⟩
 replace Hun := Lib.hid (Hun.out.kept k23)
 replace HBX := Lib.hid (HBX.out.kept k23)
 replace Hc1 := Lib.hid (Hc1.out.kept k23)
 replace Hc2 := Lib.hid (Hc2.out.kept k23)
 replace Hd1 := Lib.hid (Hd1.out.kept k23)
 replace Hc3 := Lib.hid (Hc3.out.kept k23)
 replace Hd2 := Lib.hid (Hd2.out.kept k23)
 replace HKK := Lib.hid (HKK.out.trans k23)
 have Hc4 := Lib.hid (mkk Hd2.out 18 ⟨#[98]⟩ ⟨#[]⟩)
 clear k23
 obtain ⟨w24, hw24⟩ : ∃ V, w23.alloc (.cells #[.int .i64 18, .string ⟨#[98]⟩, .string ⟨#[]⟩, .string ⟨#[]⟩, .int .i64 0, .slice (some ⟨w21.heap.size, 0, none⟩) 2 2] nT) = V := ⟨_, rfl⟩
 have k24 := keptA hw24
 have HB3 := Lib.hid (show Blk w24 w23.heap.size nT #[.int .i64 18, .string ⟨#[98]⟩, .string ⟨#[]⟩, .string ⟨#[]⟩, .int .i64 0, .slice (some ⟨w21.heap.size, 0, none⟩) 2 2] by rw [← hw24]; exact Blk.new _ _ _)
 replace Hun := Lib.hid (Hun.out.kept k24)
 replace HBX := Lib.hid (HBX.out.kept k24)
 replace Hc1 := Lib.hid (Hc1.out.kept k24)
 replace Hc2 := Lib.hid (Hc2.out.kept k24)
 replace Hd1 := Lib.hid (Hd1.out.kept k24)
 replace Hc3 := Lib.hid (Hc3.out.kept k24)
 replace Hd2 := Lib.hid (Hd2.out.kept k24)
 replace Hc4 := Lib.hid (Hc4.out.kept k24)
 replace HKK := Lib.hid (HKK.out.trans k24)
 have HWw24 := Lib.hid hw24
 clear hw24 k24
 go_wp2_with (rw [HWw24.out])
 refine (qnumber_c _ _).mono ?_
 rintro e w25 ⟨rfl, k25⟩
 replace Hun := Lib.hid (Hun.out.kept k25)
 replace HBX := Lib.hid (HBX.out.kept k25)
 replace Hc4 := Lib.hid (Hc4.out.kept k25)
 replace HB3 := Lib.hid (HB3.out.kept k25)
 replace HKK := Lib.hid (HKK.out.trans k25)
 have He1 := Lib.hid (mkn (w := w25) 7 ⟨#[]⟩ ⟨#[]⟩ 1)
 clear k25
 go_wp2_with fail
 obtain ⟨w26, hw26⟩ : ∃ V, w25.alloc (.cells #[.int .i64 7, .string ⟨#[]⟩, .string ⟨#[]⟩, .string ⟨#[]⟩, .int .i64 1, .slice none 0 0] nT) = V := ⟨_, rfl⟩
 have k26 := keptA hw26
 have Hf1 := Lib.hid (lit1 He1.out hw26)
 replace Hun := Lib.hid (Hun.out.kept k26)
 replace HBX := Lib.hid (HBX.out.kept k26)
 replace Hc4 := Lib.hid (Hc4.out.kept k26)
 replace HB3 := Lib.hid (HB3.out.kept k26)
 replace He1 := Lib.hid (He1.out.kept k26)
 replace HKK := Lib.hid (HKK.out.trans k26)
 have HWw26 := Lib.hid hw26
 clear hw26 k26
 go_wp2_with (rw [HWw26.out])
 refine (qon_c _ _ _ _ _ _ _).mono ?_
 rintro e w27 ⟨rfl, k27⟩
 replace Hun := Lib.hid (Hun.out.kept k27)
 replace HBX := Lib.hid (HBX.out.kept k27)
 replace Hc4 := Lib.hid (Hc4.out.kept k27)
 replace HB3 := Lib.hid (HB3.out.kept k27)
 replace He1 := Lib.hid (He1.out.kept k27)
 replace Hf1 := Lib.hid (Hf1.out.kept k27)
 replace HKK := Lib.hid (HKK.out.trans k27)
 have He2 := Lib.hid (mkk Hf1.out 24 ⟨#[45]⟩ ⟨#[]⟩)
 clear k27
 go_wp2_with fail
 obtain ⟨w28, hw28⟩ : ∃ V, w27.alloc (.cells #[.int .i64 24, .string ⟨#[45]⟩, .string ⟨#[]⟩, .string ⟨#[]⟩, .int .i64 0, .slice (some ⟨w25.heap.size, 0, none⟩) 1 1] nT) = V := ⟨_, rfl⟩
 have k28 := keptA hw28
 have Hf2 := Lib.hid (lit1 He2.out hw28)
 replace Hun := Lib.hid (Hun.out.kept k28)
 replace HBX := Lib.hid (HBX.out.kept k28)
 replace Hc4 := Lib.hid (Hc4.out.kept k28)
 replace HB3 := Lib.hid (HB3.out.kept k28)
 replace He1 := Lib.hid (He1.out.kept k28)
 replace Hf1 := Lib.hid (Hf1.out.kept k28)
 replace He2 := Lib.hid (He2.out.kept k28)
 replace HKK := Lib.hid (HKK.out.trans k28)
 have HWw28 := Lib.hid hw28
 clear hw28 k28
 go_wp2_with (rw [HWw28.out])
 refine (qon_c _ _ _ _ _ _ _).mono ?_
 rintro e w29 ⟨rfl, k29⟩
 replace Hun := Lib.hid (Hun.out.kept k29)
 replace HBX := Lib.hid (HBX.out.kept k29)
 replace Hc4 := Lib.hid (Hc4.out.kept k29)
 replace HB3 := Lib.hid (HB3.out.kept k29)
 replace He1 := Lib.hid (He1.out.kept k29)
 replace Hf1 := Lib.hid (Hf1.out.kept k29)
 replace He2 := Lib.hid (He2.out.kept k29)
 replace Hf2 := Lib.hid (Hf2.out.kept k29)
 replace HKK := Lib.hid (HKK.out.trans k29)
 have He3 := Lib.hid (mkk Hf2.out 24 ⟨#[45]⟩ ⟨#[]⟩)
 clear k29
 go_wp2_with fail
 obtain ⟨w30, hw30⟩ : ∃ V, w29.alloc (.cells #[.int .i64 24, .string ⟨#[45]⟩, .string ⟨#[]⟩, .string ⟨#[]⟩, .int .i64 0, .slice (some ⟨w27.heap.size, 0, none⟩) 1 1] nT) = V := ⟨_, rfl⟩
 have k30 := keptA hw30
 have Hf3 := Lib.hid (lit1 He3.out hw30)
 replace Hun := Lib.hid (Hun.out.kept k30)
 replace HBX := Lib.hid (HBX.out.kept k30)
 replace Hc4 := Lib.hid (Hc4.out.kept k30)
 replace HB3 := Lib.hid (HB3.out.kept k30)
 replace He1 := Lib.hid (He1.out.kept k30)
 replace Hf1 := Lib.hid (Hf1.out.kept k30)
 replace He2 := Lib.hid (He2.out.kept k30)
 replace Hf2 := Lib.hid (Hf2.out.kept k30)
 replace He3 := Lib.hid (He3.out.kept k30)
 replace HKK := Lib.hid (HKK.out.trans k30)
 have HWw30 := Lib.hid hw30
 clear hw30 k30
 go_wp2_with (rw [HWw30.out])
 refine (qon_c _ _ _ _ _ _ _).mono ?_
 rintro e w31 ⟨rfl, k31⟩
 replace Hun := Lib.hid (Hun.out.kept k31)
 replace HBX := Lib.hid (HBX.out.kept k31)
 replace Hc4 := Lib.hid (Hc4.out.kept k31)
 replace HB3 := Lib.hid (HB3.out.kept k31)
 replace He1 := Lib.hid (He1.out.kept k31)
 replace Hf1 := Lib.hid (Hf1.out.kept k31)
 replace He2 := Lib.hid (He2.out.kept k31)
 replace Hf2 := Lib.hid (Hf2.out.kept k31)
 replace He3 := Lib.hid (He3.out.kept k31)
 replace Hf3 := Lib.hid (Hf3.out.kept k31)
 replace HKK := Lib.hid (HKK.out.trans k31)
 have He4 := Lib.hid (mkk Hf3.out 16 ⟨#[122]⟩ ⟨#[]⟩)
 clear k31
 go_wp2_with fail
 obtain ⟨w32, hw32⟩ : ∃ V, w31.alloc (.cells #[.int .i64 16, .string ⟨#[122]⟩, .string ⟨#[]⟩, .string ⟨#[]⟩, .int .i64 0, .slice (some ⟨w29.heap.size, 0, none⟩) 1 1] nT) = V := ⟨_, rfl⟩
 have k32 := keptA hw32
 have Hf4 := Lib.hid (lit1 He4.out hw32)
 replace Hun := Lib.hid (Hun.out.kept k32)
 replace HBX := Lib.hid (HBX.out.kept k32)
 replace Hc4 := Lib.hid (Hc4.out.kept k32)
 replace HB3 := Lib.hid (HB3.out.kept k32)
 replace He1 := Lib.hid (He1.out.kept k32)
 replace Hf1 := Lib.hid (Hf1.out.kept k32)
 replace He2 := Lib.hid (He2.out.kept k32)
 replace Hf2 := Lib.hid (Hf2.out.kept k32)
 replace He3 := Lib.hid (He3.out.kept k32)
 replace Hf3 := Lib.hid (Hf3.out.kept k32)
 replace He4 := Lib.hid (He4.out.kept k32)
 replace HKK := Lib.hid (HKK.out.trans k32)
 have HWw32 := Lib.hid hw32
 clear hw32 k32
 go_wp2_with (rw [HWw32.out])
 refine (qon_c _ _ _ _ _ _ _).mono ?_
 rintro e w33 ⟨rfl, k33⟩
 replace Hun := Lib.hid (Hun.out.kept k33)
 replace HBX := Lib.hid (HBX.out.kept k33)
 replace Hc4 := Lib.hid (Hc4.out.kept k33)
 replace HB3 := Lib.hid (HB3.out.kept k33)
 replace He1 := Lib.hid (He1.out.kept k33)
 replace Hf1 := Lib.hid (Hf1.out.kept k33)
 replace He2 := Lib.hid (He2.out.kept k33)
 replace Hf2 := Lib.hid (Hf2.out.kept k33)
 replace He3 := Lib.hid (He3.out.kept k33)
 replace Hf3 := Lib.hid (Hf3.out.kept k33)
 replace He4 := Lib.hid (He4.out.kept k33)
 replace Hf4 := Lib.hid (Hf4.out.kept k33)
 replace HKK := Lib.hid (HKK.out.trans k33)
 have He5 := Lib.hid (mkk Hf4.out 16 ⟨#[121]⟩ ⟨#[]⟩)
 clear k33
 go_wp2_with fail
 obtain ⟨w34, hw34⟩ : ∃ V, w33.alloc (.cells #[.int .i64 16, .string ⟨#[121]⟩, .string ⟨#[]⟩, .string ⟨#[]⟩, .int .i64 0, .slice (some ⟨w31.heap.size, 0, none⟩) 1 1] nT) = V := ⟨_, rfl⟩
 have k34 := keptA hw34
 have Hf5 := Lib.hid (lit1 He5.out hw34)
 replace Hun := Lib.hid (Hun.out.kept k34)
 replace HBX := Lib.hid (HBX.out.kept k34)
 replace Hc4 := Lib.hid (Hc4.out.kept k34)
 replace HB3 := Lib.hid (HB3.out.kept k34)
 replace He1 := Lib.hid (He1.out.kept k34)
 replace Hf1 := Lib.hid (Hf1.out.kept k34)
 replace He2 := Lib.hid (He2.out.kept k34)
 replace Hf2 := Lib.hid (Hf2.out.kept k34)
 replace He3 := Lib.hid (He3.out.kept k34)
 replace Hf3 := Lib.hid (Hf3.out.kept k34)
 replace He4 := Lib.hid (He4.out.kept k34)
 replace Hf4 := Lib.hid (Hf4.out.kept k34)
 replace He5 := Lib.hid (He5.out.kept k34)
 replace HKK := Lib.hid (HKK.out.trans k34)
 have HWw34 := Lib.hid hw34
 clear hw34 k34
 go_wp2_with (rw [HWw34.out])
 refine (qon_c _ _ _ _ _ _ _).mono ?_
 rintro e w35 ⟨rfl, k35⟩
 replace Hun := Lib.hid (Hun.out.kept k35)
 replace HBX := Lib.hid (HBX.out.kept k35)
 replace Hc4 := Lib.hid (Hc4.out.kept k35)
 replace HB3 := Lib.hid (HB3.out.kept k35)
 replace He1 := Lib.hid (He1.out.kept k35)
 replace Hf1 := Lib.hid (Hf1.out.kept k35)
 replace He2 := Lib.hid (He2.out.kept k35)
 replace Hf2 := Lib.hid (Hf2.out.kept k35)
 replace He3 := Lib.hid (He3.out.kept k35)
 replace Hf3 := Lib.hid (Hf3.out.kept k35)
 replace He4 := Lib.hid (He4.out.kept k35)
 replace Hf4 := Lib.hid (Hf4.out.kept k35)
 replace He5 := Lib.hid (He5.out.kept k35)
 replace Hf5 := Lib.hid (Hf5.out.kept k35)
 replace HKK := Lib.hid (HKK.out.trans k35)
 have He6 := Lib.hid (mkk Hf5.out 15 ⟨#[120]⟩ ⟨#[63]⟩)
 clear k35
 obtain ⟨w36, hw36⟩ : ∃ V, w35.alloc (.cells #[.int .i64 15, .string ⟨#[120]⟩, .string ⟨#[63]⟩, .string ⟨#[]⟩, .int .i64 0, .slice (some ⟨w33.heap.size, 0, none⟩) 1 1] nT) = V := ⟨_, rfl⟩
 have k36 := keptA hw36
 have HB4 := Lib.hid (show Blk w36 w35.heap.size nT #[.int .i64 15, .string ⟨#[120]⟩, .string ⟨#[63]⟩, .string ⟨#[]⟩, .int .i64 0, .slice (some ⟨w33.heap.size, 0, none⟩) 1 1] by rw [← hw36]; exact Blk.new _ _ _)
 replace Hun := Lib.hid (Hun.out.kept k36)
 replace HBX := Lib.hid (HBX.out.kept k36)
 replace Hc4 := Lib.hid (Hc4.out.kept k36)
 replace HB3 := Lib.hid (HB3.out.kept k36)
 replace He1 := Lib.hid (He1.out.kept k36)
 replace Hf1 := Lib.hid (Hf1.out.kept k36)
 replace He2 := Lib.hid (He2.out.kept k36)
 replace Hf2 := Lib.hid (Hf2.out.kept k36)
 replace He3 := Lib.hid (He3.out.kept k36)
 replace Hf3 := Lib.hid (Hf3.out.kept k36)
 replace He4 := Lib.hid (He4.out.kept k36)
 replace Hf4 := Lib.hid (Hf4.out.kept k36)
 replace He5 := Lib.hid (He5.out.kept k36)
 replace Hf5 := Lib.hid (Hf5.out.kept k36)
 replace He6 := Lib.hid (He6.out.kept k36)
 replace HKK := Lib.hid (HKK.out.trans k36)
 have HWw36 := Lib.hid hw36
 clear hw36 k36
 go_wp2_with (rw [HWw36.out])
 refine (pprint_c (Ps.nd 6 ⟨#[]⟩ ⟨#[]⟩ 0 []) none 0 _ (HTB.out.kept HKK.out).tb (HTB.out.kept HKK.out).pw (HTB.out.kept HKK.out).er (nd_ok1 _ _ _ _ _ (by decide) (by decide) (by decide) (by decide)) Row.nil (by decide +kernel) (fun h => absurd (qx7.symm.trans h) (by decide))).mono ?_
 rw [qx8]
 rintro e w37 ⟨rfl, k37⟩
 replace Hun := Lib.hid (Hun.out.kept k37)
 replace HBX := Lib.hid (HBX.out.kept k37)
 replace Hc4 := Lib.hid (Hc4.out.kept k37)
 replace HB3 := Lib.hid (HB3.out.kept k37)
 replace He6 := Lib.hid (He6.out.kept k37)
 replace HB4 := Lib.hid (HB4.out.kept k37)
 replace HKK := Lib.hid (HKK.out.trans k37)
 obtain ⟨Z, hZ⟩ : ∃ Z, w37.alloc (.cells #[.int .i64 0, .int .i64 0] 32) = Z := ⟨_, rfl⟩
 obtain ⟨Y, hY⟩ : ∃ Y, (Z.setCell ⟨w37.heap.size, 0, none⟩ (.int .i64 5)).setCell ⟨w37.heap.size, 1, none⟩ (.int .i64 0) = Y := ⟨_, rfl⟩
 obtain ⟨z3, b3, k3⟩ := one_box w37 5 0 hZ hY
 have HZ := Lib.hid hZ
 have HY := Lib.hid hY
 have p0 := z3.cell 0
 have p1 := z3.cell 1
 have r0 := z3.frozen 0
 have r1 := z3.frozen 1
 have HF := Lib.hid b3
 replace Hun := Lib.hid (Hun.out.kept k3)
 replace HBX := Lib.hid (HBX.out.kept k3)
 replace Hc4 := Lib.hid (Hc4.out.kept k3)
 replace HB3 := Lib.hid (HB3.out.kept k3)
 replace He6 := Lib.hid (He6.out.kept k3)
 replace HB4 := Lib.hid (HB4.out.kept k3)
 replace HKK := Lib.hid (HKK.out.trans k3)
 clear z3 b3 hZ hY k3 k37
 go_wp2_with (first | rw [HZ.out] | rw [HY.out])
 clear p0 p1 r0 r1
 refine (qawake_c _ (HTB.out.kept HKK.out)).mono ?_
 rintro e w38 ⟨rfl, k38⟩
 replace Hun := Lib.hid (Hun.out.kept k38)
 replace HBX := Lib.hid (HBX.out.kept k38)
 replace Hc4 := Lib.hid (Hc4.out.kept k38)
 replace HB3 := Lib.hid (HB3.out.kept k38)
 replace He6 := Lib.hid (He6.out.kept k38)
 replace HB4 := Lib.hid (HB4.out.kept k38)
 replace HF := Lib.hid (HF.out.kept k38)
 replace HKK := Lib.hid (HKK.out.trans k38)
 clear k38
 obtain ⟨⟨r0, r1, r2, r3, r4, r5⟩, _⟩ := nd_six HB3.out
 obtain ⟨w39, hw39⟩ : ∃ V, w38.alloc (.cells #[.int .i64 18, .string ⟨#[98]⟩, .string ⟨#[]⟩, .string ⟨#[]⟩, .int .i64 0, .slice (some ⟨w21.heap.size, 0, none⟩) 2 2] nT) = V := ⟨_, rfl⟩
 have k39 := keptA hw39
 have Hg1 := Lib.hid (lit1 Hc4.out hw39)
 replace Hun := Lib.hid (Hun.out.kept k39)
 replace HBX := Lib.hid (HBX.out.kept k39)
 replace Hc4 := Lib.hid (Hc4.out.kept k39)
 replace HB3 := Lib.hid (HB3.out.kept k39)
 replace He6 := Lib.hid (He6.out.kept k39)
 replace HB4 := Lib.hid (HB4.out.kept k39)
 replace HF := Lib.hid (HF.out.kept k39)
 replace HKK := Lib.hid (HKK.out.trans k39)
 have HWw39 := Lib.hid hw39
 clear hw39 k39
 go_wp2_with (rw [HWw39.out])
 clear r0 r1 r2 r3 r4 r5
 refine (qprogram_c _ _ _ [N12] _ (Hg1.out)).mono ?_
 rintro e w40 ⟨a40, n40, c40, rfl, m40, k40⟩
 replace Hun := Lib.hid (Hun.out.kept k40)
 replace HBX := Lib.hid (HBX.out.kept k40)
 replace Hc4 := Lib.hid (Hc4.out.kept k40)
 replace HB3 := Lib.hid (HB3.out.kept k40)
 replace He6 := Lib.hid (He6.out.kept k40)
 replace HB4 := Lib.hid (HB4.out.kept k40)
 replace HF := Lib.hid (HF.out.kept k40)
 replace Hg1 := Lib.hid (Hg1.out.kept k40)
 replace HKK := Lib.hid (HKK.out.trans k40)
 have Hp5 := Lib.hid (show Mk w40 N18 (.slice a40 n40 c40) from m40)
 clear m40
 clear k40
 go_wp2_with fail
 refine (prints_q ⟨#[109, 97, 105, 110, 32, 123, 32, 97, 32, 46, 32, 98, 32, 61, 32, 40, 32, 99, 32, 58, 32, 63, 32, 41, 32, 125]⟩ N18 (.slice a40 n40 c40) _ (HTB.out.kept HKK.out) Hp5.out qx5).mono ?_
 rintro e w41 ⟨rfl, k41⟩
 replace Hun := Lib.hid (Hun.out.kept k41)
 replace HBX := Lib.hid (HBX.out.kept k41)
 replace Hc4 := Lib.hid (Hc4.out.kept k41)
 replace HB3 := Lib.hid (HB3.out.kept k41)
 replace He6 := Lib.hid (He6.out.kept k41)
 replace HB4 := Lib.hid (HB4.out.kept k41)
 replace HF := Lib.hid (HF.out.kept k41)
 replace Hg1 := Lib.hid (Hg1.out.kept k41)
 replace Hp5 := Lib.hid (Hp5.out.kept k41)
 replace HKK := Lib.hid (HKK.out.trans k41)
 clear k41
 obtain ⟨⟨s0, s1, s2, s3, s4, s5⟩, _⟩ := nd_six HB4.out
 obtain ⟨w42, hw42⟩ : ∃ V, w41.alloc (.cells #[.int .i64 15, .string ⟨#[120]⟩, .string ⟨#[63]⟩, .string ⟨#[]⟩, .int .i64 0, .slice (some ⟨w33.heap.size, 0, none⟩) 1 1] nT) = V := ⟨_, rfl⟩
 have k42 := keptA hw42
 have Hg2 := Lib.hid (lit1 He6.out hw42)
 replace Hun := Lib.hid (Hun.out.kept k42)
 replace HBX := Lib.hid (HBX.out.kept k42)
 replace Hc4 := Lib.hid (Hc4.out.kept k42)
 replace HB3 := Lib.hid (HB3.out.kept k42)
 replace He6 := Lib.hid (He6.out.kept k42)
 replace HB4 := Lib.hid (HB4.out.kept k42)
 replace HF := Lib.hid (HF.out.kept k42)
 replace Hg1 := Lib.hid (Hg1.out.kept k42)
 replace Hp5 := Lib.hid (Hp5.out.kept k42)
 replace HKK := Lib.hid (HKK.out.trans k42)
 have HWw42 := Lib.hid hw42
 clear hw42 k42
 go_wp2_with (rw [HWw42.out])
 clear s0 s1 s2 s3 s4 s5
 refine (qprogram_c _ _ _ [N17] _ (Hg2.out)).mono ?_
 rintro e w43 ⟨a43, n43, c43, rfl, m43, k43⟩
 replace Hun := Lib.hid (Hun.out.kept k43)
 replace HBX := Lib.hid (HBX.out.kept k43)
 replace Hc4 := Lib.hid (Hc4.out.kept k43)
 replace HB3 := Lib.hid (HB3.out.kept k43)
 replace He6 := Lib.hid (He6.out.kept k43)
 replace HB4 := Lib.hid (HB4.out.kept k43)
 replace HF := Lib.hid (HF.out.kept k43)
 replace Hg1 := Lib.hid (Hg1.out.kept k43)
 replace Hp5 := Lib.hid (Hp5.out.kept k43)
 replace Hg2 := Lib.hid (Hg2.out.kept k43)
 replace HKK := Lib.hid (HKK.out.trans k43)
 have Hp6 := Lib.hid (show Mk w43 N19 (.slice a43 n43 c43) from m43)
 clear m43
 clear k43
 go_wp2_with fail
 refine (prints_q ⟨#[109, 97, 105, 110, 32, 123, 32, 108, 101, 116, 32, 120, 32, 61, 32, 121, 32, 61, 32, 122, 32, 61, 32, 45, 32, 45, 32, 49, 32, 125]⟩ N19 (.slice a43 n43 c43) _ (HTB.out.kept HKK.out) Hp6.out qx6).mono ?_
 rintro e w44 ⟨rfl, k44⟩
 replace Hun := Lib.hid (Hun.out.kept k44)
 replace HBX := Lib.hid (HBX.out.kept k44)
 replace Hc4 := Lib.hid (Hc4.out.kept k44)
 replace HB3 := Lib.hid (HB3.out.kept k44)
 replace He6 := Lib.hid (He6.out.kept k44)
 replace HB4 := Lib.hid (HB4.out.kept k44)
 replace HF := Lib.hid (HF.out.kept k44)
 replace Hg1 := Lib.hid (Hg1.out.kept k44)
 replace Hp5 := Lib.hid (Hp5.out.kept k44)
 replace Hg2 := Lib.hid (Hg2.out.kept k44)
 replace Hp6 := Lib.hid (Hp6.out.kept k44)
 replace HKK := Lib.hid (HKK.out.trans k44)
 clear k44
 have i0 := HF.out.cell 0
 have i1 := HF.out.cell 1
 obtain ⟨⟨t0, t1, t2, t3, t4, t5⟩, _⟩ := nd_six HBX.out
 obtain ⟨w45, hw45⟩ : ∃ V, w44.alloc (.cells #[.int .i64 11, .string ⟨#[]⟩, .string ⟨#[]⟩, .string ⟨#[]⟩, .int .i64 0, .slice none 0 0] nT) = V := ⟨_, rfl⟩
 have k45 := keptA hw45
 have Hg3 := Lib.hid (lit1 Hun.out hw45)
 replace Hun := Lib.hid (Hun.out.kept k45)
 replace HBX := Lib.hid (HBX.out.kept k45)
 replace Hc4 := Lib.hid (Hc4.out.kept k45)
 replace HB3 := Lib.hid (HB3.out.kept k45)
 replace He6 := Lib.hid (He6.out.kept k45)
 replace HB4 := Lib.hid (HB4.out.kept k45)
 replace HF := Lib.hid (HF.out.kept k45)
 replace Hg1 := Lib.hid (Hg1.out.kept k45)
 replace Hp5 := Lib.hid (Hp5.out.kept k45)
 replace Hg2 := Lib.hid (Hg2.out.kept k45)
 replace Hp6 := Lib.hid (Hp6.out.kept k45)
 replace HKK := Lib.hid (HKK.out.trans k45)
 have HWw45 := Lib.hid hw45
 clear hw45 k45
 go_wp2_with (rw [HWw45.out])
 clear i0 i1 t0 t1 t2 t3 t4 t5
 refine (qon_c _ _ _ _ _ _ _).mono ?_
 rintro e w46 ⟨rfl, k46⟩
 replace Hun := Lib.hid (Hun.out.kept k46)
 replace HBX := Lib.hid (HBX.out.kept k46)
 replace Hc4 := Lib.hid (Hc4.out.kept k46)
 replace HB3 := Lib.hid (HB3.out.kept k46)
 replace He6 := Lib.hid (He6.out.kept k46)
 replace HB4 := Lib.hid (HB4.out.kept k46)
 replace HF := Lib.hid (HF.out.kept k46)
 replace Hg1 := Lib.hid (Hg1.out.kept k46)
 replace Hp5 := Lib.hid (Hp5.out.kept k46)
 replace Hg2 := Lib.hid (Hg2.out.kept k46)
 replace Hp6 := Lib.hid (Hp6.out.kept k46)
 replace Hg3 := Lib.hid (Hg3.out.kept k46)
 replace HKK := Lib.hid (HKK.out.trans k46)
 have Hh1 := Lib.hid (mkk Hg3.out 16 ⟨#[120]⟩ ⟨#[]⟩)
 clear k46
 go_wp2_with fail
 refine (level_cP N20 (.slice (some ⟨w44.heap.size, 0, none⟩) 1 1) _).mono ?_
 rintro e w47 ⟨rfl, k47⟩
 replace Hun := Lib.hid (Hun.out.kept k47)
 replace HBX := Lib.hid (HBX.out.kept k47)
 replace Hc4 := Lib.hid (Hc4.out.kept k47)
 replace HB3 := Lib.hid (HB3.out.kept k47)
 replace He6 := Lib.hid (He6.out.kept k47)
 replace HB4 := Lib.hid (HB4.out.kept k47)
 replace HF := Lib.hid (HF.out.kept k47)
 replace Hg1 := Lib.hid (Hg1.out.kept k47)
 replace Hp5 := Lib.hid (Hp5.out.kept k47)
 replace Hg2 := Lib.hid (Hg2.out.kept k47)
 replace Hp6 := Lib.hid (Hp6.out.kept k47)
 replace Hg3 := Lib.hid (Hg3.out.kept k47)
 replace Hh1 := Lib.hid (Hh1.out.kept k47)
 replace HKK := Lib.hid (HKK.out.trans k47)
 rw [show Pr.lv N20 = (0 : Int) from by decide +kernel]
 clear k47
 obtain ⟨⟨t0, t1, t2, t3, t4, t5⟩, _⟩ := nd_six HBX.out
 go_wp2_with fail
 clear t0 t1 t2 t3 t4 t5
 refine (level_cP (Ps.nd 11 ⟨#[]⟩ ⟨#[]⟩ 0 []) (.slice none 0 0) _).mono ?_
 rintro e w48 ⟨rfl, k48⟩
 replace Hun := Lib.hid (Hun.out.kept k48)
 replace HBX := Lib.hid (HBX.out.kept k48)
 replace Hc4 := Lib.hid (Hc4.out.kept k48)
 replace HB3 := Lib.hid (HB3.out.kept k48)
 replace He6 := Lib.hid (He6.out.kept k48)
 replace HB4 := Lib.hid (HB4.out.kept k48)
 replace HF := Lib.hid (HF.out.kept k48)
 replace Hg1 := Lib.hid (Hg1.out.kept k48)
 replace Hp5 := Lib.hid (Hp5.out.kept k48)
 replace Hg2 := Lib.hid (Hg2.out.kept k48)
 replace Hp6 := Lib.hid (Hp6.out.kept k48)
 replace Hg3 := Lib.hid (Hg3.out.kept k48)
 replace Hh1 := Lib.hid (Hh1.out.kept k48)
 replace HKK := Lib.hid (HKK.out.trans k48)
 rw [show Pr.lv (Ps.nd 11 ⟨#[]⟩ ⟨#[]⟩ 0 []) = (8 : Int) from by decide +kernel]
 clear k48
 go_wp2_with fail
 go_ret
 exact ⟨rfl, HKK.out⟩
end Go.Proofs.YtfpklgffdniegaaGreatDoor
