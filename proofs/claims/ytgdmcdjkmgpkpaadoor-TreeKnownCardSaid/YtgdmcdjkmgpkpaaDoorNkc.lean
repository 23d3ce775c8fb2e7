/- The chapter's examples: how they are made, and what is told of them. -/
import Derived.Test.YtgdmcdjkmgpkpaaDoorNdk
import Derived.Test.YtgdmcdjkmgpkpaaDoorNsn
import Derived.Test.YtgdmcdjkmgpkpaaDoorNat
set_option linter.unusedSimpArgs false
set_option linter.unusedVariables false
set_option maxRecDepth 100000
namespace Go.Proofs.YtgdmcdjkmgpkpaaDoor
open Go.ChangeShapes Go.WideShapes Go.ChangeAt Go.RowKit

abbrev emS : ByteArray := ⟨#[]⟩
/-- A node without more; a program of one expression; the number 3. -/
def ndK (k : Int) : Nd := .mk k emS emS emS 0 []
def ndT (k : Int) (t y : ByteArray) (ks : List Nd) : Nd := .mk k t y emS 0 ks
def progT (x : Nd) : Nd := .mk 1 emS emS emS 0 [.mk 6 emS emS emS 0 [x]]
def threeT : Nd := .mk 7 emS emS emS 3 []

theorem kx1 : checkE (progT threeT) = (0, 0) := by decide +kernel
theorem kx2 : checkE (ndK 6) = (5, 0) := by decide +kernel
theorem kx3 : checkE (progT (ndT 14 ⟨#[73, 102]⟩ emS [])) = (6, 2) := by decide +kernel
theorem kx4 : checkE (ndK 1) = (5, 0) := by decide +kernel
theorem kx5 : checkE (progT (ndT 15 ⟨#[120]⟩ ⟨#[63]⟩ [threeT])) = (0, 0) := by decide +kernel
theorem kx6 : checkE (progT (ndT 12 emS ⟨#[97]⟩ [])) = (6, 2) := by decide +kernel
theorem kx7 : checkE (progT (.mk 7 emS emS emS (-1) [])) = (3, 2) := by decide +kernel
theorem kx8 : checkE (progT (ndT 17 ⟨#[97]⟩ emS [])) = (5, 2) := by decide +kernel
theorem kx9 : checkE (progT (ndT 24 ⟨#[63]⟩ emS [ndK 11])) = (5, 2) := by decide +kernel
theorem kx10 : checkE (progT (ndT 27 emS emS [ndK 6])) = (5, 2) := by decide +kernel
theorem kx11 : checkE (progT (ndT 28 emS ⟨#[105, 110, 116, 50]⟩ [ndK 11])) = (7, 2) := by decide +kernel

theorem node_results {fn : Func} {p : Tmp} (h : fn.results = #[.cell p 24]) (tmps : Array Value) (W : World) {g : Nat} {x0 x1 x2 x3 x4 x5 : Value}
    (hp : tmps.getD p undef = .pointer (some ⟨g, 0, none⟩)) (hg : Blk W g 24 #[x0, x1, x2, x3, x4, x5]) : (results fn tmps).run Tryd.prog W = .ok (.agg #[x0, x1, x2, x3, x4, x5]) W :=
  results_cell_row (P := Tryd.prog) h tmps W g 24 #[x0, x1, x2, x3, x4, x5] (0, 0) _ hp hg Tryd.underlying24 (by rfl) (by kernel_rfl)

theorem node_b (k : Int) (a : Option Addr) (n c : Nat) (w : World) : Calls Tryd.prog 21 #[.int .i64 k, .slice a n c] w fun e w' => e = .returned (.agg #[.int .i64 k, .string emS, .string emS, .string emS, .int .i64 0, .slice a n c]) ∧ Kept w w' := by
  go_enter Tryd.func21, Tryd.ntmps21
  go_wp2_with fail
  exact bodyPost_ret (node_results (by rfl) _ _ rfl (Blk.new _ _ _)) rfl ⟨rfl, (Kept.refl w).alloc _⟩
theorem named_b (k : Int) (t y : ByteArray) (a : Option Addr) (n c : Nat) (w : World) : Calls Tryd.prog 24 #[.int .i64 k, .string t, .string y, .slice a n c] w fun e w' => e = .returned (.agg #[.int .i64 k, .string t, .string y, .string emS, .int .i64 0, .slice a n c]) ∧ Kept w w' := by
  go_enter Tryd.func24, Tryd.ntmps24
  go_wp2_with fail
  exact bodyPost_ret (node_results (by rfl) _ _ rfl (Blk.new _ _ _)) rfl ⟨rfl, (Kept.refl w).alloc _⟩
theorem three_b (w : World) : Calls Tryd.prog 25 #[] w fun e w' => e = .returned (.agg #[.int .i64 7, .string emS, .string emS, .string emS, .int .i64 3, .slice none 0 0]) ∧ Kept w w' := by
  go_enter Tryd.func25, Tryd.ntmps25
  go_wp2_with fail
  exact bodyPost_ret (node_results (by rfl) _ _ rfl (Blk.new _ _ _)) rfl ⟨rfl, (Kept.refl w).alloc _⟩
theorem nd_ok (k n : Int) (t y f : ByteArray) (ks : List Nd) (hk : -9223372036854775808 ≤ k ∧ k ≤ 9223372036854775807) (hn : -9223372036854775808 ≤ n ∧ n ≤ 9223372036854775807) (ht : t.size ≤ maxLen) (hy : y.size ≤ maxLen) (hf : f.size ≤ maxLen) : (Nd.mk k t y f n ks).ok1 := ⟨hk, hn, ht, hy, hf⟩
theorem kids_nil (w : World) : KidsAt w (.slice none 0 0) [] := Row.nil

set_option maxHeartbeats 4000000 in
theorem program_b (x : Nd) (a : Option Addr) (c : Nat) (w : World) (hok : x.ok1) (hk : KidsAt w (.slice a x.kids.length c) x.kids) :
    Calls Tryd.prog 23 #[ndV x (.slice a x.kids.length c)] w fun e w' => ∃ g, e = .returned (ndV (progT x) (.slice (some ⟨g, 0, none⟩) 1 1)) ∧ KidsAt w' (.slice (some ⟨g, 0, none⟩) 1 1) [.mk 6 emS emS emS 0 [x]] ∧ Kept w w' := by
  obtain ⟨W1, hW1⟩ : ∃ W1, ((w.alloc (.cells #[.int .i64 x.kind, .string x.text, .string x.typ, .string x.frm, .int .i64 x.n, .slice a x.kids.length c] 24)).alloc (.cells #[.int .i64 0, .string ⟨#[]⟩, .string ⟨#[]⟩, .string ⟨#[]⟩, .int .i64 0, .slice none 0 0] 24)).alloc (.cells #[.int .i64 x.kind, .string x.text, .string x.typ, .string x.frm, .int .i64 x.n, .slice a x.kids.length c] 24) = W1 := ⟨_, rfl⟩
  have k1 : Kept w W1 := by rw [← hW1]; exact (((Kept.refl w).alloc _).alloc _).alloc _
  have br : Blk W1 (w.heap.size + 1) 24 #[.int .i64 0, .string ⟨#[]⟩, .string ⟨#[]⟩, .string ⟨#[]⟩, .int .i64 0, .slice none 0 0] := by rw [← hW1]; exact (Blk.at (by simp)).alloc _
  have bx : Blk W1 (w.heap.size + 2) 24 (ndC x (.slice a x.kids.length c)).toArray := by rw [← hW1]; exact Blk.at (by simp)
  have HX := Lib.hid (show NdD (fun k => k ≠ w.heap.size + 1) W1 (w.heap.size + 2) 0 x from blk_node hok (((KidsD.low hk).kept k1).mono fun k _ h e => by omega) bx (fun e => by omega))
  have HBR := Lib.hid br
  have HK1 := Lib.hid k1
  have HW1 := Lib.hid hW1
  have HN6 := Lib.hid (node_b 6 (some ⟨w.heap.size + 2, 0, none⟩) 1 1 W1)
  have hz1 : W1.heap.size = w.heap.size + 3 := by rw [← hW1]; simp
  have HZ1 := Lib.hid hz1
  clear hW1 k1 br bx hk hz1
  go_enter Tryd.func23, Tryd.ntmps23
  go_wp2_with (rw [HW1.out])
  refine HN6.out.mono ?_
  rintro e w2 ⟨rfl, k2⟩
  obtain ⟨W3, hW3⟩ : ∃ W3, w2.alloc (.cells #[.int .i64 6, .string emS, .string emS, .string emS, .int .i64 0, .slice (some ⟨w.heap.size + 2, 0, none⟩) 1 1] 24) = W3 := ⟨_, rfl⟩
  have k3 : Kept w2 W3 := by rw [← hW3]; exact (Kept.refl w2).alloc _
  have b3 : Blk W3 w2.heap.size 24 (ndC (.mk 6 emS emS emS 0 [x]) (.slice (some ⟨w.heap.size + 2, 0, none⟩) 1 1)).toArray := by rw [← hW3]; exact Blk.new _ _ _
  have hsz2 := k2.size
  have hz1 := HZ1.out
  have h3 : NdD (fun k => k ≠ w.heap.size + 1) W3 w2.heap.size 0 (.mk 6 emS emS emS 0 [x]) := blk_node (x := .mk 6 emS emS emS 0 [x]) (nd_ok _ _ _ _ _ _ (by decide) (by decide) (by decide) (by decide) (by decide)) (KidsD.one (HX.out.kept (k2.trans k3)) (Nat.le_refl _) (by decide)) b3 (fun e => by omega)
  have HN1 := Lib.hid (node_b 1 (some ⟨w2.heap.size, 0, none⟩) 1 1 W3)
  have H3 := Lib.hid h3
  have HK3 := Lib.hid (k2.trans k3)
  have HW3 := Lib.hid hW3
  clear hW3 k3 b3 h3 HN6 k2 hsz2 hz1
  go_wp2_with (rw [HW3.out])
  refine HN1.out.mono ?_
  rintro e w4 ⟨rfl, k4⟩
  have hb := HBR.out.kept (HK3.out.trans k4)
  obtain ⟨e0, e1, e2, e3, e4, e5⟩ : w4.cell? ⟨w.heap.size + 1, 0, none⟩ = some (.int .i64 0) ∧ w4.cell? ⟨w.heap.size + 1, 1, none⟩ = some (.string ⟨#[]⟩) ∧ w4.cell? ⟨w.heap.size + 1, 2, none⟩ = some (.string ⟨#[]⟩) ∧ w4.cell? ⟨w.heap.size + 1, 3, none⟩ = some (.string ⟨#[]⟩) ∧ w4.cell? ⟨w.heap.size + 1, 4, none⟩ = some (.int .i64 0) ∧ w4.cell? ⟨w.heap.size + 1, 5, none⟩ = some (.slice none 0 0) := ⟨hb.cell 0, hb.cell 1, hb.cell 2, hb.cell 3, hb.cell 4, hb.cell 5⟩
  obtain ⟨f0, f1, f2, f3, f4, f5⟩ : w4.frozen? ⟨w.heap.size + 1, 0, none⟩ = false ∧ w4.frozen? ⟨w.heap.size + 1, 1, none⟩ = false ∧ w4.frozen? ⟨w.heap.size + 1, 2, none⟩ = false ∧ w4.frozen? ⟨w.heap.size + 1, 3, none⟩ = false ∧ w4.frozen? ⟨w.heap.size + 1, 4, none⟩ = false ∧ w4.frozen? ⟨w.heap.size + 1, 5, none⟩ = false := ⟨hb.frozen 0, hb.frozen 1, hb.frozen 2, hb.frozen 3, hb.frozen 4, hb.frozen 5⟩
  have HB := Lib.hid hb
  have HK4 := Lib.hid (HK3.out.trans k4)
  have H4 := Lib.hid (KidsD.one (H3.out.kept k4) (Nat.le_refl 1) (by decide))
  clear hb k4 HN1
  go_wp2_with fail
  have hb6 := (((((HB.out.put 0 (.int .i64 1)).put 1 (.string emS)).put 2 (.string emS)).put 3 (.string emS)).put 4 (.int .i64 0)).put 5 (.slice (some ⟨w2.heap.size, 0, none⟩) 1 1)
  simp only [List.setIfInBounds_toArray, List.set_cons_zero, List.set_cons_succ] at hb6
  have ho : Only (· = w.heap.size + 1) w4 ((((((w4.setCell ⟨w.heap.size + 1, 0, none⟩ (.int .i64 1)).setCell ⟨w.heap.size + 1, 1, none⟩ (.string emS)).setCell ⟨w.heap.size + 1, 2, none⟩ (.string emS)).setCell ⟨w.heap.size + 1, 3, none⟩ (.string emS)).setCell ⟨w.heap.size + 1, 4, none⟩ (.int .i64 0)).setCell ⟨w.heap.size + 1, 5, none⟩ (.slice (some ⟨w2.heap.size, 0, none⟩) 1 1)) := ((((((Only.refl _ w4).put 0 _).put 1 _).put 2 _).put 3 _).put 4 _).put 5 _
  refine bodyPost_ret (node_results (by rfl) _ _ rfl hb6) rfl ⟨w2.heap.size, rfl, ?_, (HK1.out.trans HK4.out).only ho rfl (fun k hk => by omega)⟩
  exact (H4.out.only ho (fun k h e => h e)).at

set_option maxHeartbeats 4000000 in
theorem checks_b (x : Nd) (a : Option Addr) (c : Nat) (e0 p0 : Int) (w : World) (hT : Tb w) (hok : x.ok1) (hk : KidsAt w (.slice a x.kids.length c) x.kids) (hcnt : x.count ≤ 1000000000) (hc : checkE x = (e0, p0)) :
    Calls Tryd.prog 22 #[ndV x (.slice a x.kids.length c), .int .i64 e0, .int .i64 p0] w fun e w' => e = .returned (.bool true) ∧ Kept w w' := by
  obtain ⟨W1, hW1⟩ : ∃ W1, w.alloc (.cells #[.int .i64 x.kind, .string x.text, .string x.typ, .string x.frm, .int .i64 x.n, .slice a x.kids.length c] 24) = W1 := ⟨_, rfl⟩
  have k1 : Kept w W1 := by rw [← hW1]; exact (Kept.refl w).alloc _
  have HC := Lib.hid (check_c x a c W1 (hT.kept k1) hok (KidsD.kept hk k1) hcnt)
  rw [hc] at HC
  have HW1 := Lib.hid hW1
  have HK1 := Lib.hid k1
  clear hW1 k1 hk hok hT hc
  go_enter Tryd.func22, Tryd.ntmps22
  go_wp2_with fail
  rw [HW1.out]
  refine HC.out.mono ?_
  rintro e w2 ⟨rfl, k2⟩
  dsimp only
  go_wp2_with fail
  go_ret
  exact ⟨rfl, HK1.out.trans k2⟩

end Go.Proofs.YtgdmcdjkmgpkpaaDoor
