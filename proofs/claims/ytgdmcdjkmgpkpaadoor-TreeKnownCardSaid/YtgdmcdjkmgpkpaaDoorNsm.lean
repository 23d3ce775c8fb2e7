/- Same: whether two trees are equal; a node without its kids. -/
import Derived.Test.YtgdmcdjkmgpkpaaDoorTro
import Derived.Laws.Rows
import Derived.Laws.StructEq
import Derived.Test.YtgdmcdjkmgpkpaaDoorHlt
set_option linter.unusedSimpArgs false
set_option linter.unusedVariables false
set_option maxRecDepth 100000
namespace Go.Proofs.YtgdmcdjkmgpkpaaDoor
open Go.ChangeShapes Go.WideShapes Go.ChangeAt Go.RowKit Go.Shelf
attribute [local go_sem] Oper.semAt_some

/-- A node without its kids, but with their number. -/
abbrev Ow := Int × ByteArray × ByteArray × ByteArray × Int × Nat
def ownP (x : Nd) : Ow := (x.kind, x.text, x.typ, x.frm, x.n, x.kids.length)
def owC (o : Ow) : Array Value := #[.int .i64 o.1, .string o.2.1, .string o.2.2.1, .string o.2.2.2.1, .int .i64 o.2.2.2.2.1, .int .i64 (o.2.2.2.2.2 : Nat)]

theorem own_results {fn : Func} {p : Tmp} (h : fn.results = #[.cell p 59]) (tmps : Array Value) (W : World) {g : Nat} {x0 x1 x2 x3 x4 x5 : Value}
    (hp : tmps.getD p undef = .pointer (some ⟨g, 0, none⟩)) (hg : Blk W g 59 #[x0, x1, x2, x3, x4, x5]) : (results fn tmps).run Tryd.prog W = .ok (.agg #[x0, x1, x2, x3, x4, x5]) W :=
  results_cell_row (P := Tryd.prog) h tmps W g 59 #[x0, x1, x2, x3, x4, x5] (0, 0) _ hp hg Tryd.underlying59 (by rfl) (by kernel_rfl)

set_option maxHeartbeats 4000000 in
theorem ownOf_c (b o : Nat) (x : Nd) (w : World) (h : NdAt w b o x) :
    Calls Tryd.prog 36 #[.pointer (some ⟨b, o, none⟩)] w fun e w' => e = .returned (.agg (owC (ownP x))) ∧ Kept w w' := by
  obtain ⟨ad, c, ⟨d0, d1, d2, d3, d4, d5⟩, _⟩ := h.cells
  obtain ⟨W1, hW1⟩ : ∃ W1, w.alloc (.cells #[.int .i64 0, .string ⟨#[]⟩, .string ⟨#[]⟩, .string ⟨#[]⟩, .int .i64 0, .int .i64 0] 59) = W1 := ⟨_, rfl⟩
  have k1 : Kept w W1 := by rw [← hW1]; exact (Kept.refl w).alloc _
  have b1 : Blk W1 w.heap.size 59 #[.int .i64 0, .string ⟨#[]⟩, .string ⟨#[]⟩, .string ⟨#[]⟩, .int .i64 0, .int .i64 0] := by rw [← hW1]; exact Blk.new _ _ _
  have d0 := k1.cell d0
  have d1 := k1.cell d1
  have d2 := k1.cell d2
  have d3 := k1.cell d3
  have d4 := k1.cell d4
  have d5 := k1.cell d5
  have HW1 := Lib.hid hW1
  have HB := Lib.hid b1
  have HK := Lib.hid k1
  clear hW1 h k1 b1
  go_enter Tryd.func36, Tryd.ntmps36
  go_wp2_with (rw [HW1.out])
  have b0 := HB.out.cell 0
  have b1 := HB.out.cell 1
  have b2 := HB.out.cell 2
  have b3 := HB.out.cell 3
  have b4 := HB.out.cell 4
  have b5 := HB.out.cell 5
  have f0 := HB.out.frozen 0
  have f1 := HB.out.frozen 1
  have f2 := HB.out.frozen 2
  have f3 := HB.out.frozen 3
  have f4 := HB.out.frozen 4
  have f5 := HB.out.frozen 5
  simp only [List.getElem?_toArray, List.getElem?_cons_succ, List.getElem?_cons_zero] at b0 b1 b2 b3 b4 b5
  refine wp_region_till (S := (fun W => W.cell? ⟨b, o, none⟩ = some (.int .i64 x.kind) ∧ W.cell? ⟨b, o + 1, none⟩ = some (.string x.text) ∧ W.cell? ⟨b, o + 2, none⟩ = some (.string x.typ) ∧ W.cell? ⟨b, o + 3, none⟩ = some (.string x.frm) ∧ W.cell? ⟨b, o + 4, none⟩ = some (.int .i64 x.n) ∧ W.cell? ⟨b, o + 5, none⟩ = some (.slice ad x.kids.length c))) 26 (by kernel_rfl) ⟨(Kept.refl W1).drew.cell d0, (Kept.refl W1).drew.cell d1, (Kept.refl W1).drew.cell d2, (Kept.refl W1).drew.cell d3, (Kept.refl W1).drew.cell d4, (Kept.refl W1).drew.cell d5⟩ (fun hHeld0 => ?_)
  refine wpAnyT_take (i := 0) (v := ?_) rfl (by kernel_rfl) (by kernel_rfl) (by kernel_rfl) (fun _ _ _ h => h) (Or.inl ⟨by kernel_rfl, ?_⟩) (by assumption) ?_
  rotate_left
  · intro w hSw; (try dsimp only at hSw); go_simp; (try with_reducible rfl)
  (try simp only [Act.put, List.getElem_toArray, List.getElem_cons_zero, List.getElem_cons_succ, List.setIfInBounds_toArray, List.set_cons_zero, List.set_cons_succ])
  refine wpAnyT_take (i := 1) (v := ?_) rfl (by kernel_rfl) (by kernel_rfl) (by kernel_rfl) (fun _ _ _ h => h) (Or.inl ⟨by kernel_rfl, ?_⟩) (by assumption) ?_
  rotate_left
  · intro w hSw; (try dsimp only at hSw); go_simp; (try with_reducible rfl)
  (try simp only [Act.put, List.getElem_toArray, List.getElem_cons_zero, List.getElem_cons_succ, List.setIfInBounds_toArray, List.set_cons_zero, List.set_cons_succ])
  refine wpAnyT_take (i := 2) (v := ?_) rfl (by kernel_rfl) (by kernel_rfl) (by kernel_rfl) (fun _ _ _ h => h) (Or.inl ⟨by kernel_rfl, ?_⟩) (by assumption) ?_
  rotate_left
  · intro w hSw; (try dsimp only at hSw); go_simp; (try with_reducible rfl)
  (try simp only [Act.put, List.getElem_toArray, List.getElem_cons_zero, List.getElem_cons_succ, List.setIfInBounds_toArray, List.set_cons_zero, List.set_cons_succ])
  refine wpAnyT_take (i := 3) (v := ?_) rfl (by kernel_rfl) (by kernel_rfl) (by kernel_rfl) (fun _ _ _ h => h) (Or.inl ⟨by kernel_rfl, ?_⟩) (by assumption) ?_
  rotate_left
  · intro w hSw; (try dsimp only at hSw); go_simp; (try with_reducible rfl)
  (try simp only [Act.put, List.getElem_toArray, List.getElem_cons_zero, List.getElem_cons_succ, List.setIfInBounds_toArray, List.set_cons_zero, List.set_cons_succ])
  refine wpAnyT_take (i := 4) (v := ?_) rfl (by kernel_rfl) (by kernel_rfl) (by kernel_rfl) (fun _ _ _ h => h) (Or.inl ⟨by kernel_rfl, ?_⟩) (by assumption) ?_
  rotate_left
  · intro w hSw; (try dsimp only at hSw); go_simp; (try with_reducible rfl)
  (try simp only [Act.put, List.getElem_toArray, List.getElem_cons_zero, List.getElem_cons_succ, List.setIfInBounds_toArray, List.set_cons_zero, List.set_cons_succ])
  refine wpAnyT_take (i := 5) (v := ?_) rfl (by kernel_rfl) (by kernel_rfl) (by kernel_rfl) (fun _ _ _ h => h) (Or.inl ⟨by kernel_rfl, ?_⟩) (by assumption) ?_
  rotate_left
  · intro w hSw; (try dsimp only at hSw); go_simp; (try with_reducible rfl)
  (try simp only [Act.put, List.getElem_toArray, List.getElem_cons_zero, List.getElem_cons_succ, List.setIfInBounds_toArray, List.set_cons_zero, List.set_cons_succ])
  refine wpAnyT_take (i := 6) (v := ?_) rfl (by kernel_rfl) (by kernel_rfl) (by kernel_rfl) (fun _ _ _ h => h) (Or.inl ⟨by kernel_rfl, ?_⟩) (by assumption) ?_
  rotate_left
  · intro w hSw; (try dsimp only at hSw); go_simp; (try with_reducible rfl)
  (try simp only [Act.put, List.getElem_toArray, List.getElem_cons_zero, List.getElem_cons_succ, List.setIfInBounds_toArray, List.set_cons_zero, List.set_cons_succ])
  refine wpAnyT_take (i := 7) (v := ?_) rfl (by kernel_rfl) (by kernel_rfl) (by kernel_rfl) (fun _ _ _ h => h) (Or.inl ⟨by kernel_rfl, ?_⟩) (by assumption) ?_
  rotate_left
  · intro w hSw; (try dsimp only at hSw); go_simp; (try with_reducible rfl)
  (try simp only [Act.put, List.getElem_toArray, List.getElem_cons_zero, List.getElem_cons_succ, List.setIfInBounds_toArray, List.set_cons_zero, List.set_cons_succ])
  refine wpAnyT_take (i := 8) (v := ?_) rfl (by kernel_rfl) (by kernel_rfl) (by kernel_rfl) (fun _ _ _ h => h) (Or.inl ⟨by kernel_rfl, ?_⟩) (by assumption) ?_
  rotate_left
  · intro w hSw; (try dsimp only at hSw); go_simp; (try with_reducible rfl)
  (try simp only [Act.put, List.getElem_toArray, List.getElem_cons_zero, List.getElem_cons_succ, List.setIfInBounds_toArray, List.set_cons_zero, List.set_cons_succ])
  refine wpAnyT_take (i := 9) (v := ?_) rfl (by kernel_rfl) (by kernel_rfl) (by kernel_rfl) (fun _ _ _ h => h) (Or.inl ⟨by kernel_rfl, ?_⟩) (by assumption) ?_
  rotate_left
  · intro w hSw; (try dsimp only at hSw); go_simp; (try with_reducible rfl)
  (try simp only [Act.put, List.getElem_toArray, List.getElem_cons_zero, List.getElem_cons_succ, List.setIfInBounds_toArray, List.set_cons_zero, List.set_cons_succ])
  refine wpAnyT_take (i := 10) (v := ?_) rfl (by kernel_rfl) (by kernel_rfl) (by kernel_rfl) (fun _ _ _ h => h) (Or.inl ⟨by kernel_rfl, ?_⟩) (by assumption) ?_
  rotate_left
  · intro w hSw; (try dsimp only at hSw); go_simp; (try with_reducible rfl)
  (try simp only [Act.put, List.getElem_toArray, List.getElem_cons_zero, List.getElem_cons_succ, List.setIfInBounds_toArray, List.set_cons_zero, List.set_cons_succ])
  refine wpAnyT_take (i := 11) (v := ?_) rfl (by kernel_rfl) (by kernel_rfl) (by kernel_rfl) (fun _ _ _ h => h) (Or.inl ⟨by kernel_rfl, ?_⟩) (by assumption) ?_
  rotate_left
  · intro w hSw; (try dsimp only at hSw); go_simp; (try with_reducible rfl)
  (try simp only [Act.put, List.getElem_toArray, List.getElem_cons_zero, List.getElem_cons_succ, List.setIfInBounds_toArray, List.set_cons_zero, List.set_cons_succ])
  refine wpAnyT_take (i := 12) (v := ?_) rfl (by kernel_rfl) (by kernel_rfl) (by kernel_rfl) (fun _ _ _ h => h) (Or.inl ⟨by kernel_rfl, ?_⟩) (by assumption) ?_
  rotate_left
  · intro w hSw; (try dsimp only at hSw); go_simp; (try with_reducible rfl)
  (try simp only [Act.put, List.getElem_toArray, List.getElem_cons_zero, List.getElem_cons_succ, List.setIfInBounds_toArray, List.set_cons_zero, List.set_cons_succ])
  refine wpAnyT_take (i := 13) (v := ?_) rfl (by kernel_rfl) (by kernel_rfl) (by kernel_rfl) (fun _ _ _ h => h) (Or.inl ⟨by kernel_rfl, ?_⟩) (by assumption) ?_
  rotate_left
  · intro w hSw; (try dsimp only at hSw); go_simp; (try with_reducible rfl)
  (try simp only [Act.put, List.getElem_toArray, List.getElem_cons_zero, List.getElem_cons_succ, List.setIfInBounds_toArray, List.set_cons_zero, List.set_cons_succ])
  refine wpAnyT_take (i := 14) (v := ?_) rfl (by kernel_rfl) (by kernel_rfl) (by kernel_rfl) (fun _ _ _ h => h) (Or.inl ⟨by kernel_rfl, ?_⟩) (by assumption) ?_
  rotate_left
  · intro w hSw; (try dsimp only at hSw); go_simp; (try with_reducible rfl)
  (try simp only [Act.put, List.getElem_toArray, List.getElem_cons_zero, List.getElem_cons_succ, List.setIfInBounds_toArray, List.set_cons_zero, List.set_cons_succ])
  refine wpAnyT_take (i := 15) (v := ?_) rfl (by kernel_rfl) (by kernel_rfl) (by kernel_rfl) (fun _ _ _ h => h) (Or.inl ⟨by kernel_rfl, ?_⟩) (by assumption) ?_
  rotate_left
  · intro w hSw; (try dsimp only at hSw); go_simp; (try with_reducible rfl)
  (try simp only [Act.put, List.getElem_toArray, List.getElem_cons_zero, List.getElem_cons_succ, List.setIfInBounds_toArray, List.set_cons_zero, List.set_cons_succ])
  refine wpAnyT_take (i := 16) (v := ?_) rfl (by kernel_rfl) (by kernel_rfl) (by kernel_rfl) (fun _ _ _ h => h) (Or.inl ⟨by kernel_rfl, ?_⟩) (by assumption) ?_
  rotate_left
  · intro w hSw; (try dsimp only at hSw); go_simp; (try with_reducible rfl)
  (try simp only [Act.put, List.getElem_toArray, List.getElem_cons_zero, List.getElem_cons_succ, List.setIfInBounds_toArray, List.set_cons_zero, List.set_cons_succ])
  refine wpAnyT_take (i := 17) (v := ?_) rfl (by kernel_rfl) (by kernel_rfl) (by kernel_rfl) (fun _ _ _ h => h) (Or.inl ⟨by kernel_rfl, ?_⟩) (by assumption) ?_
  rotate_left
  · intro w hSw; (try dsimp only at hSw); go_simp; (try with_reducible rfl)
  (try simp only [Act.put, List.getElem_toArray, List.getElem_cons_zero, List.getElem_cons_succ, List.setIfInBounds_toArray, List.set_cons_zero, List.set_cons_succ])
  refine wpAnyT_take (i := 18) (v := ?_) rfl (by kernel_rfl) (by kernel_rfl) (by kernel_rfl) (fun _ _ _ h => h) (Or.inl ⟨by kernel_rfl, ?_⟩) (by assumption) ?_
  rotate_left
  · intro w hSw; (try dsimp only at hSw); go_simp; (try with_reducible rfl)
  (try simp only [Act.put, List.getElem_toArray, List.getElem_cons_zero, List.getElem_cons_succ, List.setIfInBounds_toArray, List.set_cons_zero, List.set_cons_succ])
  refine wpAnyT_take (i := 19) (v := ?_) rfl (by kernel_rfl) (by kernel_rfl) (by kernel_rfl) (fun _ _ _ h => h) (Or.inl ⟨by kernel_rfl, ?_⟩) (by assumption) ?_
  rotate_left
  · intro w hSw; (try dsimp only at hSw); go_simp; (try with_reducible rfl)
  (try simp only [Act.put, List.getElem_toArray, List.getElem_cons_zero, List.getElem_cons_succ, List.setIfInBounds_toArray, List.set_cons_zero, List.set_cons_succ])
  refine wpAnyT_take (i := 20) (v := ?_) rfl (by kernel_rfl) (by kernel_rfl) (by kernel_rfl) (fun _ _ _ h => h) (Or.inl ⟨by kernel_rfl, ?_⟩) (by assumption) ?_
  rotate_left
  · intro w hSw; (try dsimp only at hSw); go_simp; (try with_reducible rfl)
  (try simp only [Act.put, List.getElem_toArray, List.getElem_cons_zero, List.getElem_cons_succ, List.setIfInBounds_toArray, List.set_cons_zero, List.set_cons_succ])
  refine wpAnyT_take (i := 21) (v := ?_) rfl (by kernel_rfl) (by kernel_rfl) (by kernel_rfl) (fun _ _ _ h => h) (Or.inl ⟨by kernel_rfl, ?_⟩) (by assumption) ?_
  rotate_left
  · intro w hSw; (try dsimp only at hSw); go_simp; (try with_reducible rfl)
  (try simp only [Act.put, List.getElem_toArray, List.getElem_cons_zero, List.getElem_cons_succ, List.setIfInBounds_toArray, List.set_cons_zero, List.set_cons_succ])
  refine wpAnyT_take (i := 22) (v := ?_) rfl (by kernel_rfl) (by kernel_rfl) (by kernel_rfl) (fun _ _ _ h => h) (Or.inl ⟨by kernel_rfl, ?_⟩) (by assumption) ?_
  rotate_left
  · intro w hSw; (try dsimp only at hSw); go_simp; (try with_reducible rfl)
  (try simp only [Act.put, List.getElem_toArray, List.getElem_cons_zero, List.getElem_cons_succ, List.setIfInBounds_toArray, List.set_cons_zero, List.set_cons_succ])
  refine wpAnyT_take (i := 23) (v := ?_) rfl (by kernel_rfl) (by kernel_rfl) (by kernel_rfl) (fun _ _ _ h => h) (Or.inl ⟨by kernel_rfl, ?_⟩) (by assumption) ?_
  rotate_left
  · intro w hSw; (try dsimp only at hSw); go_simp; (try with_reducible rfl)
  (try simp only [Act.put, List.getElem_toArray, List.getElem_cons_zero, List.getElem_cons_succ, List.setIfInBounds_toArray, List.set_cons_zero, List.set_cons_succ])
  refine wpAnyT_take (i := 24) (v := ?_) rfl (by kernel_rfl) (by kernel_rfl) (by kernel_rfl) (fun _ _ _ h => h) (Or.inl ⟨by kernel_rfl, ?_⟩) (by assumption) ?_
  rotate_left
  · intro w hSw; (try dsimp only at hSw); go_simp; (try with_reducible rfl)
  (try simp only [Act.put, List.getElem_toArray, List.getElem_cons_zero, List.getElem_cons_succ, List.setIfInBounds_toArray, List.set_cons_zero, List.set_cons_succ])
  refine wpAnyT_take (i := 25) (v := ?_) rfl (by kernel_rfl) (by kernel_rfl) (by kernel_rfl) (fun _ _ _ h => h) (Or.inl ⟨by kernel_rfl, ?_⟩) (by assumption) ?_
  rotate_left
  · intro w hSw; (try dsimp only at hSw); go_simp; (try with_reducible rfl)
  (try simp only [Act.put, List.getElem_toArray, List.getElem_cons_zero, List.getElem_cons_succ, List.setIfInBounds_toArray, List.set_cons_zero, List.set_cons_succ])
  refine wpAnyT_ready (rs := [26]) (by kernel_rfl) (by simp) ?_
  refine AllReadyT.fin rfl (fun K hK => ?_)
  go_simp
  refine hK.out _ _ ?_
  clear hK K
  (try simp only [Act.put, List.getElem_toArray, List.getElem_cons_zero, List.getElem_cons_succ, List.setIfInBounds_toArray, List.set_cons_zero, List.set_cons_succ])
  refine wpAnyT_done (by kernel_rfl) ?_ _
  clear hHeld0
  go_wp2_with fail
  have hb := ((((((HB.out.put 0 (.int .i64 x.kind)).put 1 (.string x.text)).put 2 (.string x.typ)).put 3 (.string x.frm)).put 4 (.int .i64 x.n)).put 5 (.int .i64 (x.kids.length : Nat))).drew
  simp only [List.setIfInBounds_toArray, List.set_cons_zero, List.set_cons_succ] at hb
  refine bodyPost_ret (own_results (by rfl) _ _ rfl hb) rfl ⟨rfl, ?_⟩
  exact ((((((HK.out.setCell (by simp) _).setCell (by simp) _).setCell (by simp) _).setCell (by simp) _).setCell (by simp) _).setCell (by simp) _).drew

/-- Two of these compared. -/
theorem neqO (a b : Ow) (w : World) : (binOp .neq 59 (.agg (owC a)) (.agg (owC b))).run Tryd.prog w = .ok (.bool (!decide (a = b))) w := by
  obtain ⟨a0, a1, a2, a3, a4, a5⟩ := a
  obtain ⟨b0, b1, b2, b3, b4, b5⟩ := b
  have hf : Tryd.prog.fieldsOf 59 = #[{ name := "kind", type := 3, offset := 0, embedded := false, tag := "", pkgPath := "chaperon/tree", byteOffset := 0 }, { name := "text", type := 9, offset := 1, embedded := false, tag := "", pkgPath := "chaperon/tree", byteOffset := 8 }, { name := "typ", type := 9, offset := 2, embedded := false, tag := "", pkgPath := "chaperon/tree", byteOffset := 24 }, { name := "from", type := 9, offset := 3, embedded := false, tag := "", pkgPath := "chaperon/tree", byteOffset := 40 }, { name := "n", type := 3, offset := 4, embedded := false, tag := "", pkgPath := "chaperon/tree", byteOffset := 56 }, { name := "kids", type := 3, offset := 5, embedded := false, tag := "", pkgPath := "chaperon/tree", byteOffset := 64 }] := by kernel_rfl
  have hp : Tryd.prog.stoodInHeld 59 = false := by kernel_rfl
  unfold owC
  dsimp only
  have h0 : (part 3 #[.int .i64 a0, .string a1, .string a2, .string a3, .int .i64 a4, .int .i64 (a5 : Int)] 0).run Tryd.prog w = .ok (.int .i64 a0) w := by kernel_rfl
  have h1 : (part 9 #[.int .i64 a0, .string a1, .string a2, .string a3, .int .i64 a4, .int .i64 (a5 : Int)] 1).run Tryd.prog w = .ok (.string a1) w := by kernel_rfl
  have h2 : (part 9 #[.int .i64 a0, .string a1, .string a2, .string a3, .int .i64 a4, .int .i64 (a5 : Int)] 2).run Tryd.prog w = .ok (.string a2) w := by kernel_rfl
  have h3 : (part 9 #[.int .i64 a0, .string a1, .string a2, .string a3, .int .i64 a4, .int .i64 (a5 : Int)] 3).run Tryd.prog w = .ok (.string a3) w := by kernel_rfl
  have h4 : (part 3 #[.int .i64 a0, .string a1, .string a2, .string a3, .int .i64 a4, .int .i64 (a5 : Int)] 4).run Tryd.prog w = .ok (.int .i64 a4) w := by kernel_rfl
  have h5 : (part 3 #[.int .i64 a0, .string a1, .string a2, .string a3, .int .i64 a4, .int .i64 (a5 : Int)] 5).run Tryd.prog w = .ok (.int .i64 a5) w := by kernel_rfl
  have g0 : (part 3 #[.int .i64 b0, .string b1, .string b2, .string b3, .int .i64 b4, .int .i64 (b5 : Int)] 0).run Tryd.prog w = .ok (.int .i64 b0) w := by kernel_rfl
  have g1 : (part 9 #[.int .i64 b0, .string b1, .string b2, .string b3, .int .i64 b4, .int .i64 (b5 : Int)] 1).run Tryd.prog w = .ok (.string b1) w := by kernel_rfl
  have g2 : (part 9 #[.int .i64 b0, .string b1, .string b2, .string b3, .int .i64 b4, .int .i64 (b5 : Int)] 2).run Tryd.prog w = .ok (.string b2) w := by kernel_rfl
  have g3 : (part 9 #[.int .i64 b0, .string b1, .string b2, .string b3, .int .i64 b4, .int .i64 (b5 : Int)] 3).run Tryd.prog w = .ok (.string b3) w := by kernel_rfl
  have g4 : (part 3 #[.int .i64 b0, .string b1, .string b2, .string b3, .int .i64 b4, .int .i64 (b5 : Int)] 4).run Tryd.prog w = .ok (.int .i64 b4) w := by kernel_rfl
  have g5 : (part 3 #[.int .i64 b0, .string b1, .string b2, .string b3, .int .i64 b4, .int .i64 (b5 : Int)] 5).run Tryd.prog w = .ok (.int .i64 b5) w := by kernel_rfl
  have es := fun (s t : ByteArray) d => run_equalIn_string (P := Tryd.prog) w d 9 s t Tryd.underlying9
  have ei := fun (m n : Int) d => run_equalIn_int (P := Tryd.prog) w d 3 .i64 .i64 m n Tryd.underlying3
  have hs : ∀ s t : ByteArray, (s.toList == t.toList) = decide (s = t) := fun s t => by
    by_cases e : s = t
    · subst e; simp
    · rw [decide_eq_false e]
      refine beq_eq_false_iff_ne.2 (fun h => e ?_)
      rw [ByteArray.toList_eq, ByteArray.toList_eq] at h
      exact ByteArray.ext (Array.toList_inj.1 h)
  rw [run_neq_struct, show (10000 : Nat) = 9998 + 1 + 1 from rfl, run_equalIn_struct w _ _ _ _ (by rw [hf]; exact Tryd.underlying59) hp, hf]
  simp only [Op.eqFields, Sem.run_bind, Sem.run_ite, h0, h1, h2, h3, h4, h5, g0, g1, g2, g3, g4, g5, es, ei, Result.andThen_ok, hs]
  have hd : decide (((a0, a1, a2, a3, a4, a5) : Ow) = (b0, b1, b2, b3, b4, b5)) = (a0 == b0 && (decide (a1 = b1) && (decide (a2 = b2) && (decide (a3 = b3) && (a4 == b4 && ((a5 : Int) == (b5 : Int))))))) := by
    by_cases q0 : a0 = b0 <;> by_cases q1 : a1 = b1 <;> by_cases q2 : a2 = b2 <;> by_cases q3 : a3 = b3 <;> by_cases q4 : a4 = b4 <;> by_cases q5 : a5 = b5 <;> (try simp [q0, q1, q2, q3, q4, q5]) <;> (try omega)
  rw [hd]
  cases q0 : (a0 == b0) <;> cases q1 : decide (a1 = b1) <;> cases q2 : decide (a2 = b2) <;> cases q3 : decide (a3 = b3) <;> cases q4 : (a4 == b4) <;> cases q5 : ((a5 : Int) == (b5 : Int)) <;> simp [Op.eqFields, Result.andThen]
end Go.Proofs.YtgdmcdjkmgpkpaaDoor
