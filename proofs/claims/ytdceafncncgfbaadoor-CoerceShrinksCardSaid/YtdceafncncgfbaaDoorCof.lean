/- The contracts of Enter, Cast, Inward, Outward and Leave. (gencof.py) -/
import Derived.Test.YtdceafncncgfbaaDoorCex
set_option linter.unusedSimpArgs false
set_option linter.unusedVariables false
set_option maxRecDepth 100000
namespace Go.Proofs.YtdceafncncgfbaaDoor
open Go.ChangeShapes Go.WideShapes Go.ChangeAt Go.RowKit Go.Shelf

theorem cof_results {fn : Func} {q u : Tmp} (h : fn.results = #[.cell q uT, .tmp u]) (tmps : Array Value) (W : World) {g : Nat} {x0 x1 x2 x3 x4 v : Value}
    (hp : tmps.getD q undef = .pointer (some ⟨g, 0, none⟩)) (hv : tmps.getD u undef = v) (hg : Blk W g uT #[x0, x1, x2, x3, x4]) : (results fn tmps).run Tryd.prog W = .ok (.tuple #[.agg #[x0, x1, x2, x3, x4], v]) W := by
  have hp' : tmps[q]?.getD undef = .pointer (some ⟨g, 0, none⟩) := by simpa using hp
  have e3 := run_loadVar_row (P := Tryd.prog) W g uT uT #[x0, x1, x2, x3, x4] (0, 0) _ hg Tryd.underlying27 (by rfl) (by kernel_rfl)
  simp only [Array.getD_eq_getD_getElem?] at hv
  simp only [results, h]
  simp [Sem.run_bind, Result.andThen, hp', hv, asAddr, e3]
theorem cof_result {fn : Func} {q : Tmp} (h : fn.results = #[.cell q uT]) (tmps : Array Value) (W : World) {g : Nat} {x0 x1 x2 x3 x4 : Value}
    (hp : tmps.getD q undef = .pointer (some ⟨g, 0, none⟩)) (hg : Blk W g uT #[x0, x1, x2, x3, x4]) : (results fn tmps).run Tryd.prog W = .ok (.agg #[x0, x1, x2, x3, x4]) W :=
  results_cell_row (P := Tryd.prog) h tmps W g uT #[x0, x1, x2, x3, x4] (0, 0) _ hp hg Tryd.underlying27 (by rfl) (by kernel_rfl)
def LeavePost (x : Vw) (l : List Ly) (w : World) (e : Ending) (w' : World) : Prop := Kept w w' ∧ ∃ ca cc, e = .returned (vV x (.slice ca l.length cc)) ∧ w'.ownsRow w.heap.size lT 3 (.slice ca l.length cc) l.length (l.flatMap lCells) ∧ ∀ y ∈ l, y.cls.size ≤ maxLen

set_option maxHeartbeats 8000000 in
theorem oenter_c (merged : Bool) (x : Vw) (va : Option Addr) (vc : Nat) (l : List Ly) (a : Option Addr) (cp : Nat) (t : List Tab.C) (b : ByteArray) (lab : Int) (w : World) (hT : TabAt w (.slice a t.length cp) t) (hS : Small t) (hTb : Tb w) (hv : LysAt w (.slice va l.length vc) l) (hb : b.size ≤ maxLen) (hs : x.s.size ≤ maxLen) (hl : l.length ≤ 900) :
    Calls Tryd.prog 30 #[.slice a t.length cp, vV x (.slice va l.length vc), .string b, .int .i64 lab, .bool merged] w (SendPost x (Co.sent merged l (Co.enterR t x l b lab)) w) := by
  obtain ⟨r, hr⟩ : ∃ r, Co.enterR t x l b lab = r := ⟨_, rfl⟩
  obtain ⟨W1, hW1⟩ : ∃ W, w.alloc (.cells #[.int .i64 x.tag, .int .i64 x.n, .int .u64 x.bits, .string x.s, .slice va l.length vc] uT) = W := ⟨_, rfl⟩
  obtain ⟨W2, hW2⟩ : ∃ W, W1.alloc (.cells #[.string b] 9) = W := ⟨_, rfl⟩
  obtain ⟨W3, hW3⟩ : ∃ W, W2.alloc (.cells #[.int .i64 lab] 3) = W := ⟨_, rfl⟩
  obtain ⟨W4, hW4⟩ : ∃ W, W3.alloc (.cells uZ uT) = W := ⟨_, rfl⟩
  have z1 : W1.heap.size = w.heap.size + 1 := by rw [← hW1]; simp
  have z2 : W2.heap.size = w.heap.size + 2 := by rw [← hW2]; simp [z1]
  have z3 : W3.heap.size = w.heap.size + 3 := by rw [← hW3]; simp [z2]
  have z4 : W4.heap.size = w.heap.size + 4 := by rw [← hW4]; simp [z3]
  have k1 : Kept w W1 := by rw [← hW1]; exact (Kept.refl _).alloc _
  have k2 : Kept W1 W2 := by rw [← hW2]; exact (Kept.refl _).alloc _
  have k3 : Kept W2 W3 := by rw [← hW3]; exact (Kept.refl _).alloc _
  have k4 : Kept W3 W4 := by rw [← hW4]; exact (Kept.refl _).alloc _
  have b0 : Blk W4 w.heap.size uT #[.int .i64 x.tag, .int .i64 x.n, .int .u64 x.bits, .string x.s, .slice va l.length vc] := ((((show Blk W1 w.heap.size uT #[.int .i64 x.tag, .int .i64 x.n, .int .u64 x.bits, .string x.s, .slice va l.length vc] by rw [← hW1]; exact Blk.new _ _ _).kept k2).kept k3).kept k4)
  have b1 : Blk W4 (w.heap.size + 1) 9 #[.string b] := (((show Blk W2 (w.heap.size + 1) 9 #[.string b] by rw [← hW2, ← z1]; exact Blk.new _ _ _).kept k3).kept k4)
  have b2 : Blk W4 (w.heap.size + 2) 3 #[.int .i64 lab] := ((show Blk W3 (w.heap.size + 2) 3 #[.int .i64 lab] by rw [← hW3, ← z2]; exact Blk.new _ _ _).kept k4)
  have b3 : Blk W4 (w.heap.size + 3) uT uZ := (show Blk W4 (w.heap.size + 3) uT uZ by rw [← hW4, ← z3]; exact Blk.new _ _ _)
  have HK := Lib.hid (show Kept w W4 from (((k1).trans k2).trans k3).trans k4)
  have HE := Lib.hid (show Env W4 a cp t from ⟨tab_kept hT HK.out, hS, hTb.kept HK.out⟩)
  have HS := Lib.hid hs
  have HL := Lib.hid hl
  have HP := Lib.hid (And.intro hb trivial)
  obtain ⟨⟨p00, p01, p02, p03, p04⟩, _⟩ := blk5u b0
  have e1 := b1.cell 0
  simp at e1
  have e2 := b2.cell 0
  simp at e2
  have HSD := Lib.hid (send_c merged x va vc l a cp t 54 #[.pointer (some ⟨w.heap.size + 1, 0, none⟩), .pointer (some ⟨w.heap.size + 2, 0, none⟩)] (Co.enterR t x l b lab) W4 (enters_of Tryd.func54 (by kernel_rfl) rfl) (fun B bs W h h0 hk => enter1_c (w.heap.size + 1) (w.heap.size + 2) b lab W4 W (h0.1.cell e1) (h0.1.cell e2) h HE.out h0 HP.out.1 HS.out (by have := HL.out; omega)) (lys_kept hv HK.out) (by have := HL.out; omega) (fun l' h => by have := Co.enterR_len h; have := HL.out; omega))
  rw [hr] at HSD
  have HBR := Lib.hid b3
  have HW1 := Lib.hid hW1
  have HW2 := Lib.hid hW2
  have HW3 := Lib.hid hW3
  have HW4 := Lib.hid hW4
  have HRE := Lib.hid hr
  clear k1 k2 k3 k4 b0 b1 b2 b3 hW1 hW2 hW3 hW4 hT hS hTb hv hs hl hr hb
  go_enter Tryd.func30, Tryd.ntmps30
  go_wp2_with (first | rw [HW1.out] | rw [HW2.out] | rw [HW3.out] | rw [HW4.out] | rw [z1] | rw [z2] | rw [z3] | rw [z4])
  refine HSD.out.mono ?_
  rintro e w9 ⟨k9, hp9⟩
  cases r with
  | ok l0 =>
    simp only [Co.sent] at hp9
    obtain ⟨l', hl'⟩ : ∃ l', Co.sentP merged l l0 = l' := ⟨_, rfl⟩
    rw [hl'] at hp9
    have HSP := Lib.hid hl'
    clear hl'
    obtain ⟨ca, cc, rfl, hrow, hfine⟩ := hp9
    have HFI := Lib.hid hfine
    have bR := HBR.out.kept k9
    obtain ⟨⟨c0, c1, c2, c3, c4⟩, d0, d1, d2, d3, d4⟩ := blk5u bR
    obtain ⟨Y, hY⟩ : ∃ Y, put5u w9 (w.heap.size + 3) (.int .i64 x.tag) (.int .i64 x.n) (.int .u64 x.bits) (.string x.s) (.slice ca l'.length cc) = Y := ⟨_, rfl⟩
    have oY : Only (· = w.heap.size + 3) w9 Y := by rw [← hY]; exact put5u_only _ _ _ _ _ _ _
    have HY := Lib.hid (show Blk Y (w.heap.size + 3) uT #[.int .i64 x.tag, .int .i64 x.n, .int .u64 x.bits, .string x.s, .slice ca l'.length cc] by rw [← hY]; exact put5u_blk bR _ _ _ _ _)
    have HKY := Lib.hid ((HK.out.trans k9).only oY rfl (fun k e => by omega))
    have HWY := Lib.hid (show ((((w9.setCell ⟨w.heap.size + 3, 0, none⟩ (.int .i64 x.tag)).setCell ⟨w.heap.size + 3, 1, none⟩ (.int .i64 x.n)).setCell ⟨w.heap.size + 3, 2, none⟩ (.int .u64 x.bits)).setCell ⟨w.heap.size + 3, 3, none⟩ (.string x.s)).setCell ⟨w.heap.size + 3, 4, none⟩ (.slice ca l'.length cc) = Y from hY)
    have HRW := Lib.hid (show Y.ownsRow w.heap.size lT 3 (.slice ca l'.length cc) l'.length (l'.flatMap lCells) from owns_baseL (owns_onlyB hrow oY (fun g hg e => ne_row_blk bR (by decide) hrow (by rw [hg, e]))) HK.out.size)
    clear k9 hrow hfine bR oY hY
    go_wp2_with (first | rw [HWY.out])
    exact bodyPost_ret (cof_results (by rfl) _ _ rfl rfl HY.out) rfl ⟨HKY.out, by rw [HRE.out]; simp only [Co.sent]; rw [HSP.out]; exact ⟨ca, cc, rfl, HRW.out, HFI.out⟩⟩
  | error q =>
    simp only [Co.sent] at hp9
    obtain rfl := hp9
    have bR := HBR.out.kept k9
    obtain ⟨⟨c0, c1, c2, c3, c4⟩, d0, d1, d2, d3, d4⟩ := blk5u bR
    obtain ⟨Y, hY⟩ : ∃ Y, put5u w9 (w.heap.size + 3) (.int .i64 0) (.int .i64 0) (.int .u64 0) (.string ⟨#[]⟩) (.slice none 0 0) = Y := ⟨_, rfl⟩
    have oY : Only (· = w.heap.size + 3) w9 Y := by rw [← hY]; exact put5u_only _ _ _ _ _ _ _
    have HY := Lib.hid (show Blk Y (w.heap.size + 3) uT #[.int .i64 0, .int .i64 0, .int .u64 0, .string ⟨#[]⟩, .slice none 0 0] by rw [← hY]; exact put5u_blk bR _ _ _ _ _)
    have HKY := Lib.hid ((HK.out.trans k9).only oY rfl (fun k e => by omega))
    have HWY := Lib.hid (show ((((w9.setCell ⟨w.heap.size + 3, 0, none⟩ (.int .i64 0)).setCell ⟨w.heap.size + 3, 1, none⟩ (.int .i64 0)).setCell ⟨w.heap.size + 3, 2, none⟩ (.int .u64 0)).setCell ⟨w.heap.size + 3, 3, none⟩ (.string ⟨#[]⟩)).setCell ⟨w.heap.size + 3, 4, none⟩ (.slice none 0 0) = Y from hY)
    clear k9 bR oY hY
    go_wp2_with (first | rw [HWY.out])
    exact bodyPost_ret (cof_results (by rfl) _ _ rfl rfl HY.out) rfl ⟨HKY.out, by rw [HRE.out]; rfl⟩

set_option maxHeartbeats 8000000 in
theorem ocast_c (merged : Bool) (x : Vw) (va : Option Addr) (vc : Nat) (l : List Ly) (a : Option Addr) (cp : Nat) (t : List Tab.C) (s u : ByteArray) (lab : Int) (w : World) (hT : TabAt w (.slice a t.length cp) t) (hS : Small t) (hTb : Tb w) (hv : LysAt w (.slice va l.length vc) l) (hb : s.size ≤ maxLen) (hu : u.size ≤ maxLen) (hs : x.s.size ≤ maxLen) (hl : l.length ≤ 900) :
    Calls Tryd.prog 25 #[.slice a t.length cp, vV x (.slice va l.length vc), .string s, .string u, .int .i64 lab, .bool merged] w (SendPost x (Co.sent merged l (Co.castR t x l s u lab)) w) := by
  obtain ⟨r, hr⟩ : ∃ r, Co.castR t x l s u lab = r := ⟨_, rfl⟩
  obtain ⟨W1, hW1⟩ : ∃ W, w.alloc (.cells #[.int .i64 x.tag, .int .i64 x.n, .int .u64 x.bits, .string x.s, .slice va l.length vc] uT) = W := ⟨_, rfl⟩
  obtain ⟨W2, hW2⟩ : ∃ W, W1.alloc (.cells #[.string s] 9) = W := ⟨_, rfl⟩
  obtain ⟨W3, hW3⟩ : ∃ W, W2.alloc (.cells #[.string u] 9) = W := ⟨_, rfl⟩
  obtain ⟨W4, hW4⟩ : ∃ W, W3.alloc (.cells #[.int .i64 lab] 3) = W := ⟨_, rfl⟩
  obtain ⟨W5, hW5⟩ : ∃ W, W4.alloc (.cells uZ uT) = W := ⟨_, rfl⟩
  have z1 : W1.heap.size = w.heap.size + 1 := by rw [← hW1]; simp
  have z2 : W2.heap.size = w.heap.size + 2 := by rw [← hW2]; simp [z1]
  have z3 : W3.heap.size = w.heap.size + 3 := by rw [← hW3]; simp [z2]
  have z4 : W4.heap.size = w.heap.size + 4 := by rw [← hW4]; simp [z3]
  have z5 : W5.heap.size = w.heap.size + 5 := by rw [← hW5]; simp [z4]
  have k1 : Kept w W1 := by rw [← hW1]; exact (Kept.refl _).alloc _
  have k2 : Kept W1 W2 := by rw [← hW2]; exact (Kept.refl _).alloc _
  have k3 : Kept W2 W3 := by rw [← hW3]; exact (Kept.refl _).alloc _
  have k4 : Kept W3 W4 := by rw [← hW4]; exact (Kept.refl _).alloc _
  have k5 : Kept W4 W5 := by rw [← hW5]; exact (Kept.refl _).alloc _
  have b0 : Blk W5 w.heap.size uT #[.int .i64 x.tag, .int .i64 x.n, .int .u64 x.bits, .string x.s, .slice va l.length vc] := (((((show Blk W1 w.heap.size uT #[.int .i64 x.tag, .int .i64 x.n, .int .u64 x.bits, .string x.s, .slice va l.length vc] by rw [← hW1]; exact Blk.new _ _ _).kept k2).kept k3).kept k4).kept k5)
  have b1 : Blk W5 (w.heap.size + 1) 9 #[.string s] := ((((show Blk W2 (w.heap.size + 1) 9 #[.string s] by rw [← hW2, ← z1]; exact Blk.new _ _ _).kept k3).kept k4).kept k5)
  have b2 : Blk W5 (w.heap.size + 2) 9 #[.string u] := (((show Blk W3 (w.heap.size + 2) 9 #[.string u] by rw [← hW3, ← z2]; exact Blk.new _ _ _).kept k4).kept k5)
  have b3 : Blk W5 (w.heap.size + 3) 3 #[.int .i64 lab] := ((show Blk W4 (w.heap.size + 3) 3 #[.int .i64 lab] by rw [← hW4, ← z3]; exact Blk.new _ _ _).kept k5)
  have b4 : Blk W5 (w.heap.size + 4) uT uZ := (show Blk W5 (w.heap.size + 4) uT uZ by rw [← hW5, ← z4]; exact Blk.new _ _ _)
  have HK := Lib.hid (show Kept w W5 from ((((k1).trans k2).trans k3).trans k4).trans k5)
  have HE := Lib.hid (show Env W5 a cp t from ⟨tab_kept hT HK.out, hS, hTb.kept HK.out⟩)
  have HS := Lib.hid hs
  have HL := Lib.hid hl
  have HP := Lib.hid (And.intro hb hu)
  obtain ⟨⟨p00, p01, p02, p03, p04⟩, _⟩ := blk5u b0
  have e1 := b1.cell 0
  simp at e1
  have e2 := b2.cell 0
  simp at e2
  have e3 := b3.cell 0
  simp at e3
  have HSD := Lib.hid (send_c merged x va vc l a cp t 48 #[.pointer (some ⟨w.heap.size + 1, 0, none⟩), .pointer (some ⟨w.heap.size + 3, 0, none⟩), .pointer (some ⟨w.heap.size + 2, 0, none⟩)] (Co.castR t x l s u lab) W5 (enters_of Tryd.func48 (by kernel_rfl) rfl) (fun B bs W h h0 hk => cast1_c (w.heap.size + 1) (w.heap.size + 3) (w.heap.size + 2) s u lab W5 W (h0.1.cell e1) (h0.1.cell e3) (h0.1.cell e2) ⟨fun h => by have := h0.2 _ h; omega, fun h => by have := h0.2 _ h; omega, fun h => by have := h0.2 _ h; omega⟩ h HE.out h0 HP.out.1 HP.out.2 HS.out (by have := HL.out; omega)) (lys_kept hv HK.out) (by have := HL.out; omega) (fun l' h => by have := Co.castR_len h; have := HL.out; omega))
  rw [hr] at HSD
  have HBR := Lib.hid b4
  have HW1 := Lib.hid hW1
  have HW2 := Lib.hid hW2
  have HW3 := Lib.hid hW3
  have HW4 := Lib.hid hW4
  have HW5 := Lib.hid hW5
  have HRE := Lib.hid hr
  clear k1 k2 k3 k4 k5 b0 b1 b2 b3 b4 hW1 hW2 hW3 hW4 hW5 hT hS hTb hv hs hl hr hb hu
  go_enter Tryd.func25, Tryd.ntmps25
  go_wp2_with (first | rw [HW1.out] | rw [HW2.out] | rw [HW3.out] | rw [HW4.out] | rw [HW5.out] | rw [z1] | rw [z2] | rw [z3] | rw [z4] | rw [z5])
  refine HSD.out.mono ?_
  rintro e w9 ⟨k9, hp9⟩
  cases r with
  | ok l0 =>
    simp only [Co.sent] at hp9
    obtain ⟨l', hl'⟩ : ∃ l', Co.sentP merged l l0 = l' := ⟨_, rfl⟩
    rw [hl'] at hp9
    have HSP := Lib.hid hl'
    clear hl'
    obtain ⟨ca, cc, rfl, hrow, hfine⟩ := hp9
    have HFI := Lib.hid hfine
    have bR := HBR.out.kept k9
    obtain ⟨⟨c0, c1, c2, c3, c4⟩, d0, d1, d2, d3, d4⟩ := blk5u bR
    obtain ⟨Y, hY⟩ : ∃ Y, put5u w9 (w.heap.size + 4) (.int .i64 x.tag) (.int .i64 x.n) (.int .u64 x.bits) (.string x.s) (.slice ca l'.length cc) = Y := ⟨_, rfl⟩
    have oY : Only (· = w.heap.size + 4) w9 Y := by rw [← hY]; exact put5u_only _ _ _ _ _ _ _
    have HY := Lib.hid (show Blk Y (w.heap.size + 4) uT #[.int .i64 x.tag, .int .i64 x.n, .int .u64 x.bits, .string x.s, .slice ca l'.length cc] by rw [← hY]; exact put5u_blk bR _ _ _ _ _)
    have HKY := Lib.hid ((HK.out.trans k9).only oY rfl (fun k e => by omega))
    have HWY := Lib.hid (show ((((w9.setCell ⟨w.heap.size + 4, 0, none⟩ (.int .i64 x.tag)).setCell ⟨w.heap.size + 4, 1, none⟩ (.int .i64 x.n)).setCell ⟨w.heap.size + 4, 2, none⟩ (.int .u64 x.bits)).setCell ⟨w.heap.size + 4, 3, none⟩ (.string x.s)).setCell ⟨w.heap.size + 4, 4, none⟩ (.slice ca l'.length cc) = Y from hY)
    have HRW := Lib.hid (show Y.ownsRow w.heap.size lT 3 (.slice ca l'.length cc) l'.length (l'.flatMap lCells) from owns_baseL (owns_onlyB hrow oY (fun g hg e => ne_row_blk bR (by decide) hrow (by rw [hg, e]))) HK.out.size)
    clear k9 hrow hfine bR oY hY
    go_wp2_with (first | rw [HWY.out])
    exact bodyPost_ret (cof_results (by rfl) _ _ rfl rfl HY.out) rfl ⟨HKY.out, by rw [HRE.out]; simp only [Co.sent]; rw [HSP.out]; exact ⟨ca, cc, rfl, HRW.out, HFI.out⟩⟩
  | error q =>
    simp only [Co.sent] at hp9
    obtain rfl := hp9
    have bR := HBR.out.kept k9
    obtain ⟨⟨c0, c1, c2, c3, c4⟩, d0, d1, d2, d3, d4⟩ := blk5u bR
    obtain ⟨Y, hY⟩ : ∃ Y, put5u w9 (w.heap.size + 4) (.int .i64 0) (.int .i64 0) (.int .u64 0) (.string ⟨#[]⟩) (.slice none 0 0) = Y := ⟨_, rfl⟩
    have oY : Only (· = w.heap.size + 4) w9 Y := by rw [← hY]; exact put5u_only _ _ _ _ _ _ _
    have HY := Lib.hid (show Blk Y (w.heap.size + 4) uT #[.int .i64 0, .int .i64 0, .int .u64 0, .string ⟨#[]⟩, .slice none 0 0] by rw [← hY]; exact put5u_blk bR _ _ _ _ _)
    have HKY := Lib.hid ((HK.out.trans k9).only oY rfl (fun k e => by omega))
    have HWY := Lib.hid (show ((((w9.setCell ⟨w.heap.size + 4, 0, none⟩ (.int .i64 0)).setCell ⟨w.heap.size + 4, 1, none⟩ (.int .i64 0)).setCell ⟨w.heap.size + 4, 2, none⟩ (.int .u64 0)).setCell ⟨w.heap.size + 4, 3, none⟩ (.string ⟨#[]⟩)).setCell ⟨w.heap.size + 4, 4, none⟩ (.slice none 0 0) = Y from hY)
    clear k9 bR oY hY
    go_wp2_with (first | rw [HWY.out])
    exact bodyPost_ret (cof_results (by rfl) _ _ rfl rfl HY.out) rfl ⟨HKY.out, by rw [HRE.out]; rfl⟩

set_option maxHeartbeats 8000000 in
theorem oinward_c (merged : Bool) (x : Vw) (va : Option Addr) (vc : Nat) (l : List Ly) (a : Option Addr) (cp : Nat) (t : List Tab.C) (y : Vw) (ta : Option Addr) (tc : Nat) (L : List Ly) (nm : ByteArray) (p : Int) (w : World) (hT : TabAt w (.slice a t.length cp) t) (hS : Small t) (hTb : Tb w) (hv : LysAt w (.slice va l.length vc) l) (hL : LysAt w (.slice ta L.length tc) L) (hp : -9223372036854775808 ≤ p ∧ p ≤ 9223372036854775807) (hs : x.s.size ≤ maxLen) (hl : l.length + L.length ≤ 900) :
    Calls Tryd.prog 16 #[.slice a t.length cp, vV y (.slice ta L.length tc), .string nm, .int .i64 p, vV x (.slice va l.length vc), .bool merged] w (SendPost x (Co.sent merged l (Co.goR t x (fun c => Co.takenP t c nm p) true y L l)) w) := by
  obtain ⟨r, hr⟩ : ∃ r, Co.goR t x (fun c => Co.takenP t c nm p) true y L l = r := ⟨_, rfl⟩
  obtain ⟨W1, hW1⟩ : ∃ W, w.alloc (.cells #[.slice a t.length cp] 22) = W := ⟨_, rfl⟩
  obtain ⟨W2, hW2⟩ : ∃ W, W1.alloc (.cells #[.int .i64 y.tag, .int .i64 y.n, .int .u64 y.bits, .string y.s, .slice ta L.length tc] uT) = W := ⟨_, rfl⟩
  obtain ⟨W3, hW3⟩ : ∃ W, W2.alloc (.cells #[.string nm] 9) = W := ⟨_, rfl⟩
  obtain ⟨W4, hW4⟩ : ∃ W, W3.alloc (.cells #[.int .i64 p] 3) = W := ⟨_, rfl⟩
  obtain ⟨W5, hW5⟩ : ∃ W, W4.alloc (.cells #[.int .i64 x.tag, .int .i64 x.n, .int .u64 x.bits, .string x.s, .slice va l.length vc] uT) = W := ⟨_, rfl⟩
  obtain ⟨W6, hW6⟩ : ∃ W, W5.alloc (.cells uZ uT) = W := ⟨_, rfl⟩
  have z1 : W1.heap.size = w.heap.size + 1 := by rw [← hW1]; simp
  have z2 : W2.heap.size = w.heap.size + 2 := by rw [← hW2]; simp [z1]
  have z3 : W3.heap.size = w.heap.size + 3 := by rw [← hW3]; simp [z2]
  have z4 : W4.heap.size = w.heap.size + 4 := by rw [← hW4]; simp [z3]
  have z5 : W5.heap.size = w.heap.size + 5 := by rw [← hW5]; simp [z4]
  have z6 : W6.heap.size = w.heap.size + 6 := by rw [← hW6]; simp [z5]
  have k1 : Kept w W1 := by rw [← hW1]; exact (Kept.refl _).alloc _
  have k2 : Kept W1 W2 := by rw [← hW2]; exact (Kept.refl _).alloc _
  have k3 : Kept W2 W3 := by rw [← hW3]; exact (Kept.refl _).alloc _
  have k4 : Kept W3 W4 := by rw [← hW4]; exact (Kept.refl _).alloc _
  have k5 : Kept W4 W5 := by rw [← hW5]; exact (Kept.refl _).alloc _
  have k6 : Kept W5 W6 := by rw [← hW6]; exact (Kept.refl _).alloc _
  have b0 : Blk W6 w.heap.size 22 #[.slice a t.length cp] := ((((((show Blk W1 w.heap.size 22 #[.slice a t.length cp] by rw [← hW1]; exact Blk.new _ _ _).kept k2).kept k3).kept k4).kept k5).kept k6)
  have b1 : Blk W6 (w.heap.size + 1) uT #[.int .i64 y.tag, .int .i64 y.n, .int .u64 y.bits, .string y.s, .slice ta L.length tc] := (((((show Blk W2 (w.heap.size + 1) uT #[.int .i64 y.tag, .int .i64 y.n, .int .u64 y.bits, .string y.s, .slice ta L.length tc] by rw [← hW2, ← z1]; exact Blk.new _ _ _).kept k3).kept k4).kept k5).kept k6)
  have b2 : Blk W6 (w.heap.size + 2) 9 #[.string nm] := ((((show Blk W3 (w.heap.size + 2) 9 #[.string nm] by rw [← hW3, ← z2]; exact Blk.new _ _ _).kept k4).kept k5).kept k6)
  have b3 : Blk W6 (w.heap.size + 3) 3 #[.int .i64 p] := (((show Blk W4 (w.heap.size + 3) 3 #[.int .i64 p] by rw [← hW4, ← z3]; exact Blk.new _ _ _).kept k5).kept k6)
  have b4 : Blk W6 (w.heap.size + 4) uT #[.int .i64 x.tag, .int .i64 x.n, .int .u64 x.bits, .string x.s, .slice va l.length vc] := ((show Blk W5 (w.heap.size + 4) uT #[.int .i64 x.tag, .int .i64 x.n, .int .u64 x.bits, .string x.s, .slice va l.length vc] by rw [← hW5, ← z4]; exact Blk.new _ _ _).kept k6)
  have b5 : Blk W6 (w.heap.size + 5) uT uZ := (show Blk W6 (w.heap.size + 5) uT uZ by rw [← hW6, ← z5]; exact Blk.new _ _ _)
  have HK := Lib.hid (show Kept w W6 from (((((k1).trans k2).trans k3).trans k4).trans k5).trans k6)
  have HE := Lib.hid (show Env W6 a cp t from ⟨tab_kept hT HK.out, hS, hTb.kept HK.out⟩)
  have HS := Lib.hid hs
  have HL := Lib.hid hl
  have HP := Lib.hid (And.intro hL hp)
  have e0 := b0.cell 0
  simp at e0
  obtain ⟨⟨p10, p11, p12, p13, p14⟩, _⟩ := blk5u b1
  have e2 := b2.cell 0
  simp at e2
  have e3 := b3.cell 0
  simp at e3
  obtain ⟨⟨p40, p41, p42, p43, p44⟩, _⟩ := blk5u b4
  have f1 := b1
  have HSD := Lib.hid (send_c merged x va vc l a cp t 39 #[.pointer (some ⟨w.heap.size + 1, 0, none⟩), .pointer (some ⟨w.heap.size, 0, none⟩), .pointer (some ⟨w.heap.size + 2, 0, none⟩), .pointer (some ⟨w.heap.size + 3, 0, none⟩)] (Co.goR t x (fun c => Co.takenP t c nm p) true y L l) W6 (enters_of Tryd.func39 (by kernel_rfl) rfl) (fun B bs W h h0 hk => inward1_c (w.heap.size + 1) w.heap.size (w.heap.size + 2) (w.heap.size + 3) y ta tc L nm p W6 W f1 e0 e2 e3 HP.out.2 h HE.out h0 hk (lys_kept HP.out.1 HK.out) HS.out (by have := HL.out; omega)) (lys_kept hv HK.out) (by have := HL.out; omega) (fun l' h => by have := Co.goR_len h; have := HL.out; omega))
  rw [hr] at HSD
  have HBR := Lib.hid b5
  have HW1 := Lib.hid hW1
  have HW2 := Lib.hid hW2
  have HW3 := Lib.hid hW3
  have HW4 := Lib.hid hW4
  have HW5 := Lib.hid hW5
  have HW6 := Lib.hid hW6
  have HRE := Lib.hid hr
  clear k1 k2 k3 k4 k5 k6 b0 b1 b2 b3 b4 b5 hW1 hW2 hW3 hW4 hW5 hW6 hT hS hTb hv hs hl hr hL hp
  go_enter Tryd.func16, Tryd.ntmps16
  go_wp2_with (first | rw [HW1.out] | rw [HW2.out] | rw [HW3.out] | rw [HW4.out] | rw [HW5.out] | rw [HW6.out] | rw [z1] | rw [z2] | rw [z3] | rw [z4] | rw [z5] | rw [z6])
  refine HSD.out.mono ?_
  rintro e w9 ⟨k9, hp9⟩
  cases r with
  | ok l0 =>
    simp only [Co.sent] at hp9
    obtain ⟨l', hl'⟩ : ∃ l', Co.sentP merged l l0 = l' := ⟨_, rfl⟩
    rw [hl'] at hp9
    have HSP := Lib.hid hl'
    clear hl'
    obtain ⟨ca, cc, rfl, hrow, hfine⟩ := hp9
    have HFI := Lib.hid hfine
    have bR := HBR.out.kept k9
    obtain ⟨⟨c0, c1, c2, c3, c4⟩, d0, d1, d2, d3, d4⟩ := blk5u bR
    obtain ⟨Y, hY⟩ : ∃ Y, put5u w9 (w.heap.size + 5) (.int .i64 x.tag) (.int .i64 x.n) (.int .u64 x.bits) (.string x.s) (.slice ca l'.length cc) = Y := ⟨_, rfl⟩
    have oY : Only (· = w.heap.size + 5) w9 Y := by rw [← hY]; exact put5u_only _ _ _ _ _ _ _
    have HY := Lib.hid (show Blk Y (w.heap.size + 5) uT #[.int .i64 x.tag, .int .i64 x.n, .int .u64 x.bits, .string x.s, .slice ca l'.length cc] by rw [← hY]; exact put5u_blk bR _ _ _ _ _)
    have HKY := Lib.hid ((HK.out.trans k9).only oY rfl (fun k e => by omega))
    have HWY := Lib.hid (show ((((w9.setCell ⟨w.heap.size + 5, 0, none⟩ (.int .i64 x.tag)).setCell ⟨w.heap.size + 5, 1, none⟩ (.int .i64 x.n)).setCell ⟨w.heap.size + 5, 2, none⟩ (.int .u64 x.bits)).setCell ⟨w.heap.size + 5, 3, none⟩ (.string x.s)).setCell ⟨w.heap.size + 5, 4, none⟩ (.slice ca l'.length cc) = Y from hY)
    have HRW := Lib.hid (show Y.ownsRow w.heap.size lT 3 (.slice ca l'.length cc) l'.length (l'.flatMap lCells) from owns_baseL (owns_onlyB hrow oY (fun g hg e => ne_row_blk bR (by decide) hrow (by rw [hg, e]))) HK.out.size)
    clear k9 hrow hfine bR oY hY
    go_wp2_with (first | rw [HWY.out])
    exact bodyPost_ret (cof_results (by rfl) _ _ rfl rfl HY.out) rfl ⟨HKY.out, by rw [HRE.out]; simp only [Co.sent]; rw [HSP.out]; exact ⟨ca, cc, rfl, HRW.out, HFI.out⟩⟩
  | error q =>
    simp only [Co.sent] at hp9
    obtain rfl := hp9
    have bR := HBR.out.kept k9
    obtain ⟨⟨c0, c1, c2, c3, c4⟩, d0, d1, d2, d3, d4⟩ := blk5u bR
    obtain ⟨Y, hY⟩ : ∃ Y, put5u w9 (w.heap.size + 5) (.int .i64 0) (.int .i64 0) (.int .u64 0) (.string ⟨#[]⟩) (.slice none 0 0) = Y := ⟨_, rfl⟩
    have oY : Only (· = w.heap.size + 5) w9 Y := by rw [← hY]; exact put5u_only _ _ _ _ _ _ _
    have HY := Lib.hid (show Blk Y (w.heap.size + 5) uT #[.int .i64 0, .int .i64 0, .int .u64 0, .string ⟨#[]⟩, .slice none 0 0] by rw [← hY]; exact put5u_blk bR _ _ _ _ _)
    have HKY := Lib.hid ((HK.out.trans k9).only oY rfl (fun k e => by omega))
    have HWY := Lib.hid (show ((((w9.setCell ⟨w.heap.size + 5, 0, none⟩ (.int .i64 0)).setCell ⟨w.heap.size + 5, 1, none⟩ (.int .i64 0)).setCell ⟨w.heap.size + 5, 2, none⟩ (.int .u64 0)).setCell ⟨w.heap.size + 5, 3, none⟩ (.string ⟨#[]⟩)).setCell ⟨w.heap.size + 5, 4, none⟩ (.slice none 0 0) = Y from hY)
    clear k9 bR oY hY
    go_wp2_with (first | rw [HWY.out])
    exact bodyPost_ret (cof_results (by rfl) _ _ rfl rfl HY.out) rfl ⟨HKY.out, by rw [HRE.out]; rfl⟩

set_option maxHeartbeats 8000000 in
theorem ooutward_c (merged : Bool) (x : Vw) (va : Option Addr) (vc : Nat) (l : List Ly) (a : Option Addr) (cp : Nat) (t : List Tab.C) (y : Vw) (ta : Option Addr) (tc : Nat) (L : List Ly) (nm : ByteArray) (w : World) (hT : TabAt w (.slice a t.length cp) t) (hS : Small t) (hTb : Tb w) (hv : LysAt w (.slice va l.length vc) l) (hL : LysAt w (.slice ta L.length tc) L) (hs : x.s.size ≤ maxLen) (hl : l.length + L.length ≤ 900) :
    Calls Tryd.prog 23 #[.slice a t.length cp, vV y (.slice ta L.length tc), .string nm, vV x (.slice va l.length vc), .bool merged] w (SendPost x (Co.sent merged l (Co.goR t x (fun c => Co.givenP t c nm) false y L l)) w) := by
  obtain ⟨r, hr⟩ : ∃ r, Co.goR t x (fun c => Co.givenP t c nm) false y L l = r := ⟨_, rfl⟩
  obtain ⟨W1, hW1⟩ : ∃ W, w.alloc (.cells #[.slice a t.length cp] 22) = W := ⟨_, rfl⟩
  obtain ⟨W2, hW2⟩ : ∃ W, W1.alloc (.cells #[.int .i64 y.tag, .int .i64 y.n, .int .u64 y.bits, .string y.s, .slice ta L.length tc] uT) = W := ⟨_, rfl⟩
  obtain ⟨W3, hW3⟩ : ∃ W, W2.alloc (.cells #[.string nm] 9) = W := ⟨_, rfl⟩
  obtain ⟨W4, hW4⟩ : ∃ W, W3.alloc (.cells #[.int .i64 x.tag, .int .i64 x.n, .int .u64 x.bits, .string x.s, .slice va l.length vc] uT) = W := ⟨_, rfl⟩
  obtain ⟨W5, hW5⟩ : ∃ W, W4.alloc (.cells uZ uT) = W := ⟨_, rfl⟩
  have z1 : W1.heap.size = w.heap.size + 1 := by rw [← hW1]; simp
  have z2 : W2.heap.size = w.heap.size + 2 := by rw [← hW2]; simp [z1]
  have z3 : W3.heap.size = w.heap.size + 3 := by rw [← hW3]; simp [z2]
  have z4 : W4.heap.size = w.heap.size + 4 := by rw [← hW4]; simp [z3]
  have z5 : W5.heap.size = w.heap.size + 5 := by rw [← hW5]; simp [z4]
  have k1 : Kept w W1 := by rw [← hW1]; exact (Kept.refl _).alloc _
  have k2 : Kept W1 W2 := by rw [← hW2]; exact (Kept.refl _).alloc _
  have k3 : Kept W2 W3 := by rw [← hW3]; exact (Kept.refl _).alloc _
  have k4 : Kept W3 W4 := by rw [← hW4]; exact (Kept.refl _).alloc _
  have k5 : Kept W4 W5 := by rw [← hW5]; exact (Kept.refl _).alloc _
  have b0 : Blk W5 w.heap.size 22 #[.slice a t.length cp] := (((((show Blk W1 w.heap.size 22 #[.slice a t.length cp] by rw [← hW1]; exact Blk.new _ _ _).kept k2).kept k3).kept k4).kept k5)
  have b1 : Blk W5 (w.heap.size + 1) uT #[.int .i64 y.tag, .int .i64 y.n, .int .u64 y.bits, .string y.s, .slice ta L.length tc] := ((((show Blk W2 (w.heap.size + 1) uT #[.int .i64 y.tag, .int .i64 y.n, .int .u64 y.bits, .string y.s, .slice ta L.length tc] by rw [← hW2, ← z1]; exact Blk.new _ _ _).kept k3).kept k4).kept k5)
  have b2 : Blk W5 (w.heap.size + 2) 9 #[.string nm] := (((show Blk W3 (w.heap.size + 2) 9 #[.string nm] by rw [← hW3, ← z2]; exact Blk.new _ _ _).kept k4).kept k5)
  have b3 : Blk W5 (w.heap.size + 3) uT #[.int .i64 x.tag, .int .i64 x.n, .int .u64 x.bits, .string x.s, .slice va l.length vc] := ((show Blk W4 (w.heap.size + 3) uT #[.int .i64 x.tag, .int .i64 x.n, .int .u64 x.bits, .string x.s, .slice va l.length vc] by rw [← hW4, ← z3]; exact Blk.new _ _ _).kept k5)
  have b4 : Blk W5 (w.heap.size + 4) uT uZ := (show Blk W5 (w.heap.size + 4) uT uZ by rw [← hW5, ← z4]; exact Blk.new _ _ _)
  have HK := Lib.hid (show Kept w W5 from ((((k1).trans k2).trans k3).trans k4).trans k5)
  have HE := Lib.hid (show Env W5 a cp t from ⟨tab_kept hT HK.out, hS, hTb.kept HK.out⟩)
  have HS := Lib.hid hs
  have HL := Lib.hid hl
  have HP := Lib.hid (And.intro hL trivial)
  have e0 := b0.cell 0
  simp at e0
  obtain ⟨⟨p10, p11, p12, p13, p14⟩, _⟩ := blk5u b1
  have e2 := b2.cell 0
  simp at e2
  obtain ⟨⟨p30, p31, p32, p33, p34⟩, _⟩ := blk5u b3
  have f1 := b1
  have HSD := Lib.hid (send_c merged x va vc l a cp t 45 #[.pointer (some ⟨w.heap.size + 1, 0, none⟩), .pointer (some ⟨w.heap.size, 0, none⟩), .pointer (some ⟨w.heap.size + 2, 0, none⟩)] (Co.goR t x (fun c => Co.givenP t c nm) false y L l) W5 (enters_of Tryd.func45 (by kernel_rfl) rfl) (fun B bs W h h0 hk => outward1_c (w.heap.size + 1) w.heap.size (w.heap.size + 2) y ta tc L nm W5 W f1 e0 e2 h HE.out h0 hk (lys_kept HP.out.1 HK.out) HS.out (by have := HL.out; omega)) (lys_kept hv HK.out) (by have := HL.out; omega) (fun l' h => by have := Co.goR_len h; have := HL.out; omega))
  rw [hr] at HSD
  have HBR := Lib.hid b4
  have HW1 := Lib.hid hW1
  have HW2 := Lib.hid hW2
  have HW3 := Lib.hid hW3
  have HW4 := Lib.hid hW4
  have HW5 := Lib.hid hW5
  have HRE := Lib.hid hr
  clear k1 k2 k3 k4 k5 b0 b1 b2 b3 b4 hW1 hW2 hW3 hW4 hW5 hT hS hTb hv hs hl hr hL
  go_enter Tryd.func23, Tryd.ntmps23
  go_wp2_with (first | rw [HW1.out] | rw [HW2.out] | rw [HW3.out] | rw [HW4.out] | rw [HW5.out] | rw [z1] | rw [z2] | rw [z3] | rw [z4] | rw [z5])
  refine HSD.out.mono ?_
  rintro e w9 ⟨k9, hp9⟩
  cases r with
  | ok l0 =>
    simp only [Co.sent] at hp9
    obtain ⟨l', hl'⟩ : ∃ l', Co.sentP merged l l0 = l' := ⟨_, rfl⟩
    rw [hl'] at hp9
    have HSP := Lib.hid hl'
    clear hl'
    obtain ⟨ca, cc, rfl, hrow, hfine⟩ := hp9
    have HFI := Lib.hid hfine
    have bR := HBR.out.kept k9
    obtain ⟨⟨c0, c1, c2, c3, c4⟩, d0, d1, d2, d3, d4⟩ := blk5u bR
    obtain ⟨Y, hY⟩ : ∃ Y, put5u w9 (w.heap.size + 4) (.int .i64 x.tag) (.int .i64 x.n) (.int .u64 x.bits) (.string x.s) (.slice ca l'.length cc) = Y := ⟨_, rfl⟩
    have oY : Only (· = w.heap.size + 4) w9 Y := by rw [← hY]; exact put5u_only _ _ _ _ _ _ _
    have HY := Lib.hid (show Blk Y (w.heap.size + 4) uT #[.int .i64 x.tag, .int .i64 x.n, .int .u64 x.bits, .string x.s, .slice ca l'.length cc] by rw [← hY]; exact put5u_blk bR _ _ _ _ _)
    have HKY := Lib.hid ((HK.out.trans k9).only oY rfl (fun k e => by omega))
    have HWY := Lib.hid (show ((((w9.setCell ⟨w.heap.size + 4, 0, none⟩ (.int .i64 x.tag)).setCell ⟨w.heap.size + 4, 1, none⟩ (.int .i64 x.n)).setCell ⟨w.heap.size + 4, 2, none⟩ (.int .u64 x.bits)).setCell ⟨w.heap.size + 4, 3, none⟩ (.string x.s)).setCell ⟨w.heap.size + 4, 4, none⟩ (.slice ca l'.length cc) = Y from hY)
    have HRW := Lib.hid (show Y.ownsRow w.heap.size lT 3 (.slice ca l'.length cc) l'.length (l'.flatMap lCells) from owns_baseL (owns_onlyB hrow oY (fun g hg e => ne_row_blk bR (by decide) hrow (by rw [hg, e]))) HK.out.size)
    clear k9 hrow hfine bR oY hY
    go_wp2_with (first | rw [HWY.out])
    exact bodyPost_ret (cof_results (by rfl) _ _ rfl rfl HY.out) rfl ⟨HKY.out, by rw [HRE.out]; simp only [Co.sent]; rw [HSP.out]; exact ⟨ca, cc, rfl, HRW.out, HFI.out⟩⟩
  | error q =>
    simp only [Co.sent] at hp9
    obtain rfl := hp9
    have bR := HBR.out.kept k9
    obtain ⟨⟨c0, c1, c2, c3, c4⟩, d0, d1, d2, d3, d4⟩ := blk5u bR
    obtain ⟨Y, hY⟩ : ∃ Y, put5u w9 (w.heap.size + 4) (.int .i64 0) (.int .i64 0) (.int .u64 0) (.string ⟨#[]⟩) (.slice none 0 0) = Y := ⟨_, rfl⟩
    have oY : Only (· = w.heap.size + 4) w9 Y := by rw [← hY]; exact put5u_only _ _ _ _ _ _ _
    have HY := Lib.hid (show Blk Y (w.heap.size + 4) uT #[.int .i64 0, .int .i64 0, .int .u64 0, .string ⟨#[]⟩, .slice none 0 0] by rw [← hY]; exact put5u_blk bR _ _ _ _ _)
    have HKY := Lib.hid ((HK.out.trans k9).only oY rfl (fun k e => by omega))
    have HWY := Lib.hid (show ((((w9.setCell ⟨w.heap.size + 4, 0, none⟩ (.int .i64 0)).setCell ⟨w.heap.size + 4, 1, none⟩ (.int .i64 0)).setCell ⟨w.heap.size + 4, 2, none⟩ (.int .u64 0)).setCell ⟨w.heap.size + 4, 3, none⟩ (.string ⟨#[]⟩)).setCell ⟨w.heap.size + 4, 4, none⟩ (.slice none 0 0) = Y from hY)
    clear k9 bR oY hY
    go_wp2_with (first | rw [HWY.out])
    exact bodyPost_ret (cof_results (by rfl) _ _ rfl rfl HY.out) rfl ⟨HKY.out, by rw [HRE.out]; rfl⟩

set_option maxHeartbeats 8000000 in
theorem oleave_c (merged : Bool) (x : Vw) (va : Option Addr) (vc : Nat) (l : List Ly) (a : Option Addr) (cp : Nat) (t : List Tab.C) (b : ByteArray) (lab : Int) (w : World) (hT : TabAt w (.slice a t.length cp) t) (hS : Small t) (hTb : Tb w) (hv : LysAt w (.slice va l.length vc) l) (hb : b.size ≤ maxLen) (hs : x.s.size ≤ maxLen) (hl : l.length ≤ 900) :
    Calls Tryd.prog 15 #[.slice a t.length cp, vV x (.slice va l.length vc), .string b, .int .i64 lab, .bool merged] w (LeavePost x (Co.sentP merged l (Co.wrapL x l ⟨false, b, lab⟩)) w) := by
  obtain ⟨r, hr⟩ : ∃ r, Co.leaveR x l b lab = r := ⟨_, rfl⟩
  obtain ⟨W1, hW1⟩ : ∃ W, w.alloc (.cells #[.int .i64 x.tag, .int .i64 x.n, .int .u64 x.bits, .string x.s, .slice va l.length vc] uT) = W := ⟨_, rfl⟩
  obtain ⟨W2, hW2⟩ : ∃ W, W1.alloc (.cells #[.string b] 9) = W := ⟨_, rfl⟩
  obtain ⟨W3, hW3⟩ : ∃ W, W2.alloc (.cells #[.int .i64 lab] 3) = W := ⟨_, rfl⟩
  obtain ⟨W4, hW4⟩ : ∃ W, W3.alloc (.cells uZ uT) = W := ⟨_, rfl⟩
  have z1 : W1.heap.size = w.heap.size + 1 := by rw [← hW1]; simp
  have z2 : W2.heap.size = w.heap.size + 2 := by rw [← hW2]; simp [z1]
  have z3 : W3.heap.size = w.heap.size + 3 := by rw [← hW3]; simp [z2]
  have z4 : W4.heap.size = w.heap.size + 4 := by rw [← hW4]; simp [z3]
  have k1 : Kept w W1 := by rw [← hW1]; exact (Kept.refl _).alloc _
  have k2 : Kept W1 W2 := by rw [← hW2]; exact (Kept.refl _).alloc _
  have k3 : Kept W2 W3 := by rw [← hW3]; exact (Kept.refl _).alloc _
  have k4 : Kept W3 W4 := by rw [← hW4]; exact (Kept.refl _).alloc _
  have b0 : Blk W4 w.heap.size uT #[.int .i64 x.tag, .int .i64 x.n, .int .u64 x.bits, .string x.s, .slice va l.length vc] := ((((show Blk W1 w.heap.size uT #[.int .i64 x.tag, .int .i64 x.n, .int .u64 x.bits, .string x.s, .slice va l.length vc] by rw [← hW1]; exact Blk.new _ _ _).kept k2).kept k3).kept k4)
  have b1 : Blk W4 (w.heap.size + 1) 9 #[.string b] := (((show Blk W2 (w.heap.size + 1) 9 #[.string b] by rw [← hW2, ← z1]; exact Blk.new _ _ _).kept k3).kept k4)
  have b2 : Blk W4 (w.heap.size + 2) 3 #[.int .i64 lab] := ((show Blk W3 (w.heap.size + 2) 3 #[.int .i64 lab] by rw [← hW3, ← z2]; exact Blk.new _ _ _).kept k4)
  have b3 : Blk W4 (w.heap.size + 3) uT uZ := (show Blk W4 (w.heap.size + 3) uT uZ by rw [← hW4, ← z3]; exact Blk.new _ _ _)
  have HK := Lib.hid (show Kept w W4 from (((k1).trans k2).trans k3).trans k4)
  have HE := Lib.hid (show Env W4 a cp t from ⟨tab_kept hT HK.out, hS, hTb.kept HK.out⟩)
  have HS := Lib.hid hs
  have HL := Lib.hid hl
  have HP := Lib.hid (And.intro hb trivial)
  obtain ⟨⟨p00, p01, p02, p03, p04⟩, _⟩ := blk5u b0
  have e1 := b1.cell 0
  simp at e1
  have e2 := b2.cell 0
  simp at e2
  have HSD := Lib.hid (send_c merged x va vc l a cp t 37 #[.pointer (some ⟨w.heap.size + 1, 0, none⟩), .pointer (some ⟨w.heap.size + 2, 0, none⟩)] (Co.leaveR x l b lab) W4 (enters_of Tryd.func37 (by kernel_rfl) rfl) (fun B bs W h h0 hk => leave1_c (w.heap.size + 1) (w.heap.size + 2) b lab W4 W (h0.1.cell e1) (h0.1.cell e2) h HE.out h0 HP.out.1 (by have := HL.out; omega)) (lys_kept hv HK.out) (by have := HL.out; omega) (fun l' h => by have := Co.leaveR_len h; have := HL.out; omega))
  rw [hr] at HSD
  have HBR := Lib.hid b3
  have HBV := Lib.hid b0
  have HW1 := Lib.hid hW1
  have HW2 := Lib.hid hW2
  have HW3 := Lib.hid hW3
  have HW4 := Lib.hid hW4
  have HRE := Lib.hid hr
  clear k1 k2 k3 k4 b0 b1 b2 b3 hW1 hW2 hW3 hW4 hT hS hTb hv hs hl hr hb
  go_enter Tryd.func15, Tryd.ntmps15
  go_wp2_with (first | rw [HW1.out] | rw [HW2.out] | rw [HW3.out] | rw [HW4.out] | rw [z1] | rw [z2] | rw [z3] | rw [z4])
  refine HSD.out.mono ?_
  rintro e w9 ⟨k9, hp9⟩
  unfold Co.leaveR at HRE
  obtain rfl := HRE.out
  simp only [Co.sent] at hp9
  obtain ⟨l', hl'⟩ : ∃ l', Co.sentP merged l (Co.wrapL x l ⟨false, b, lab⟩) = l' := ⟨_, rfl⟩
  rw [hl'] at hp9
  have HSP := Lib.hid hl'
  clear hl'
  obtain ⟨ca, cc, rfl, hrow, hfine⟩ := hp9
  have HFI := Lib.hid hfine
  have bV := HBV.out.kept k9
  obtain ⟨⟨q0, q1, q2, q3, q4⟩, s0, s1, s2, s3, s4⟩ := blk5u bV
  obtain ⟨X, hX⟩ : ∃ Y, put5u w9 w.heap.size (.int .i64 x.tag) (.int .i64 x.n) (.int .u64 x.bits) (.string x.s) (.slice ca l'.length cc) = Y := ⟨_, rfl⟩
  have oX : Only (· = w.heap.size) w9 X := by rw [← hX]; exact put5u_only _ _ _ _ _ _ _
  have bX : Blk X w.heap.size uT #[.int .i64 x.tag, .int .i64 x.n, .int .u64 x.bits, .string x.s, .slice ca l'.length cc] := by rw [← hX]; exact put5u_blk bV _ _ _ _ _
  obtain ⟨⟨u0, u1, u2, u3, u4⟩, _⟩ := blk5u bX
  have HWX := Lib.hid (show ((((w9.setCell ⟨w.heap.size, 0, none⟩ (.int .i64 x.tag)).setCell ⟨w.heap.size, 1, none⟩ (.int .i64 x.n)).setCell ⟨w.heap.size, 2, none⟩ (.int .u64 x.bits)).setCell ⟨w.heap.size, 3, none⟩ (.string x.s)).setCell ⟨w.heap.size, 4, none⟩ (.slice ca l'.length cc) = X from hX)
  have bR := (HBR.out.kept k9).only oX (by omega)
  obtain ⟨⟨c0, c1, c2, c3, c4⟩, d0, d1, d2, d3, d4⟩ := blk5u bR
  obtain ⟨Y, hY⟩ : ∃ Y, put5u X (w.heap.size + 3) (.int .i64 x.tag) (.int .i64 x.n) (.int .u64 x.bits) (.string x.s) (.slice ca l'.length cc) = Y := ⟨_, rfl⟩
  have oY : Only (· = w.heap.size + 3) X Y := by rw [← hY]; exact put5u_only _ _ _ _ _ _ _
  have HY := Lib.hid (show Blk Y (w.heap.size + 3) uT #[.int .i64 x.tag, .int .i64 x.n, .int .u64 x.bits, .string x.s, .slice ca l'.length cc] by rw [← hY]; exact put5u_blk bR _ _ _ _ _)
  have HKY := Lib.hid (((HK.out.trans k9).only oX rfl (fun k e => by omega)).only oY rfl (fun k e => by omega))
  have HWY := Lib.hid (show ((((X.setCell ⟨w.heap.size + 3, 0, none⟩ (.int .i64 x.tag)).setCell ⟨w.heap.size + 3, 1, none⟩ (.int .i64 x.n)).setCell ⟨w.heap.size + 3, 2, none⟩ (.int .u64 x.bits)).setCell ⟨w.heap.size + 3, 3, none⟩ (.string x.s)).setCell ⟨w.heap.size + 3, 4, none⟩ (.slice ca l'.length cc) = Y from hY)
  have hnx := ne_row_blk bV (by decide) hrow
  have hnr := ne_row_blk bR (by decide) (owns_onlyB hrow oX (fun g hg e => hnx (by rw [hg, e])))
  have HRW := Lib.hid (show Y.ownsRow w.heap.size lT 3 (.slice ca l'.length cc) l'.length (l'.flatMap lCells) from owns_baseL (owns_onlyB (owns_onlyB hrow oX (fun g hg e => hnx (by rw [hg, e]))) oY (fun g hg e => hnr (by rw [hg, e]))) HK.out.size)
  clear k9 hrow hfine bR oY hY bV oX hX bX hnx hnr
  go_wp2_with (first | rw [HWX.out] | rw [HWY.out])
  exact bodyPost_ret (cof_result (by rfl) _ _ rfl HY.out) rfl ⟨HKY.out, by rw [HSP.out]; exact ⟨ca, cc, rfl, HRW.out, HFI.out⟩⟩

end Go.Proofs.YtdceafncncgfbaaDoor
