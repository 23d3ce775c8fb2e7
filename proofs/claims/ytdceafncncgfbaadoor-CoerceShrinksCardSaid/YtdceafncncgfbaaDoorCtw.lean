/- wrap: a layer behind the chain, or nothing. -/
import Derived.Test.YtdceafncncgfbaaDoorCtr
set_option linter.unusedSimpArgs false
set_option linter.unusedVariables false
set_option maxRecDepth 100000
namespace Go.Proofs.YtdceafncncgfbaaDoor
open Go.ChangeShapes Go.WideShapes Go.ChangeAt Go.RowKit Go.Shelf
open Co (dd mb shown)

theorem lay1_src (y : Ly) {W : World} {g : Nat} (h : Blk W g lT #[.bool y.out, .string y.cls, .int .i64 y.lab]) : Src Tryd.prog 3 25 (.slice (some ⟨g, 0, none⟩) 1 1) 1 (lCells y) W := by
  refine Src.ofSlice W Tryd.underlying25 ⟨g, 0, none⟩ 1 1 _ rfl ?_ ?_
  · intro j u hu
    rw [addr_plainL, Nat.zero_add, h.cell j]
    have : (#[Value.bool y.out, .string y.cls, .int .i64 y.lab] : Array Value)[j]? = (lCells y)[j]? := by rw [← Array.getElem?_toList]; rfl
    rw [this, hu]
  · intro u hu
    simp [lCells] at hu
    rcases hu with rfl | rfl | rfl <;> rfl

/-- What a part that works on the traveller makes of it. -/
def TrPost (bs : List Nat) (ex : List ByteArray) (B : Nat) (x : Vw) (l : List Ly) (tv : Value) (t : List Tab.C) (came : Int) (w : World) (w' : World) : Prop :=
  ∃ bs', TrAt bs' ex B x l tv t came w' ∧ Moved bs bs' w w'

section
variable {bs : List Nat} {ex : List ByteArray} {B : Nat} {x : Vw} {l : List Ly} {tv : Value} {t : List Tab.C} {came : Int} {cv sv : Value} {k : Nat}

set_option maxHeartbeats 4000000 in
theorem wrap_no (y : Ly) (w : World) (h : TrAt bs ex B x l tv t came w) (hTb : Tb w) (hy : y.cls.size ≤ maxLen) (hno : ¬ (x.tag = 7 ∧ Wrd.kind y.cls = 3)) :
    Calls Tryd.prog 61 #[.pointer (some ⟨B, 0, none⟩), .agg #[.bool y.out, .string y.cls, .int .i64 y.lab]] w fun e w' => e = .returned (.tuple #[]) ∧ Kept w w' := by
  obtain ⟨cv, sv, k, h⟩ := h
  obtain ⟨W1, hW1⟩ : ∃ W, w.alloc (.cells #[.bool y.out, .string y.cls, .int .i64 y.lab] lT) = W := ⟨_, rfl⟩
  have k1 : Kept w W1 := by rw [← hW1]; exact (Kept.refl _).alloc _
  have b1 : Blk W1 w.heap.size lT #[.bool y.out, .string y.cls, .int .i64 y.lab] := by rw [← hW1]; exact Blk.new _ _ _
  have HKW := Lib.hid (kindw_c y.cls W1 (hTb.kept k1) hy)
  have x0 := (h.blk.kept k1).cell 0
  have y1 := b1.cell 1
  simp at x0 y1
  have HK1 := Lib.hid k1
  have HW1 := Lib.hid hW1
  clear h k1 b1 hW1 hTb
  by_cases h7 : x.tag = 7
  · have h3 : ¬ Wrd.kind y.cls = 3 := fun e => hno ⟨h7, e⟩
    rw [h7] at x0
    have h3b : (Wrd.kind y.cls == 3) = false := by simpa using h3
    clear h7 hno h3
    generalize Wrd.kind y.cls = kd at *
    go_enter Tryd.func61, Tryd.ntmps61
    go_wp2_with (first | rw [HW1.out])
    refine HKW.out.mono ?_
    rintro e w2 ⟨rfl, k2⟩
    go_wp2_with fail
    go_end0
    exact ⟨rfl, HK1.out.trans k2⟩
  · have h7b : (x.tag == 7) = false := by simpa using h7
    clear hno h7
    generalize x.tag = tg at *
    go_enter Tryd.func61, Tryd.ntmps61
    go_wp2_with (first | rw [HW1.out])
    go_end0
    exact ⟨rfl, HK1.out⟩

set_option maxHeartbeats 8000000 in
theorem wrap_yes (y : Ly) (ex' : List ByteArray) (w : World) (h : TrAt bs ex B x l tv t came w) (hTb : Tb w) (hy : y.cls.size ≤ maxLen) (h7 : x.tag = 7) (h3 : Wrd.kind y.cls = 3) (he : ∀ c ∈ ex, c = y.cls ∨ c ∈ ex') (hle : ex.length ≤ ex'.length + 2) (hl : l.length ≤ 100000) :
    Calls Tryd.prog 61 #[.pointer (some ⟨B, 0, none⟩), .agg #[.bool y.out, .string y.cls, .int .i64 y.lab]] w fun e w' => e = .returned (.tuple #[]) ∧ TrPost bs ex' B x (l ++ [y]) tv t came w w' := by
  obtain ⟨cv, sv, k, h⟩ := h
  obtain ⟨i0, hi, hz0, hzz1, hzz2⟩ := info_parts info_layer
  obtain ⟨W1, hW1⟩ : ∃ W, w.alloc (.cells #[.bool y.out, .string y.cls, .int .i64 y.lab] lT) = W := ⟨_, rfl⟩
  have k1 : Kept w W1 := by rw [← hW1]; exact (Kept.refl _).alloc _
  have b1 : Blk W1 w.heap.size lT #[.bool y.out, .string y.cls, .int .i64 y.lab] := by rw [← hW1]; exact Blk.new _ _ _
  have HKW := Lib.hid (kindw_c y.cls W1 (hTb.kept k1) hy)
  rw [h3] at HKW
  have x0 := (h.blk.kept k1).cell 0
  have y1 := b1.cell 1
  simp at x0 y1
  rw [h7] at x0
  have HH := Lib.hid h
  have HLB := Lib.hid h.blk.lt
  have HB1 := Lib.hid b1
  have HK1 := Lib.hid k1
  have HW1 := Lib.hid hW1
  have HSN := Lib.hid (fun W (q : SeenAt bs ex x.s l tv t sv k W) => q.snoc y he hle)
  have HL := Lib.hid hl
  clear h k1 b1 hW1 hTb h3 he hle hl
  go_enter Tryd.func61, Tryd.ntmps61
  go_wp2_with (first | rw [HW1.out])
  refine HKW.out.mono ?_
  rintro e w2 ⟨rfl, k2⟩
  have HK2 := Lib.hid (HK1.out.trans k2)
  have HT2 := Lib.hid (HH.out.kept HK2.out)
  have HB2 := Lib.hid (HB1.out.kept k2)
  clear k2 x0 y1
  have g4 := HT2.out.blk.cell 4
  have q4 := HT2.out.blk.frozen 4
  have s0 := HB2.out.cell 0
  have s1 := HB2.out.cell 1
  have s2 := HB2.out.cell 2
  simp at g4 s0 s1 s2
  go_wp2_with fail
  refine wp_region_till (S := (fun W => W.cell? ⟨B, 4, none⟩ = some cv ∧ W.frozen? ⟨B, 4, none⟩ = false ∧ W.cell? ⟨w.heap.size, 0, none⟩ = some (.bool y.out) ∧ W.cell? ⟨w.heap.size, 1, none⟩ = some (.string y.cls) ∧ W.cell? ⟨w.heap.size, 2, none⟩ = some (.int .i64 y.lab))) 12 (by kernel_rfl) ⟨g4, q4, s0, s1, s2⟩ (fun hHeld0 => ?_)
  refine wpAnyT_take (i := 0) (v := ?_) rfl (by kernel_rfl) (by kernel_rfl) (by kernel_rfl) (fun _ _ _ h => h) (Or.inl ⟨by kernel_rfl, ?_⟩) (by assumption) ?_
  rotate_left
  · intro w hSw; (try dsimp only at hSw); go_simp; (try with_reducible rfl)
  (try simp only [Act.put, List.getElem_toArray, List.getElem_cons_zero, List.getElem_cons_succ, List.setIfInBounds_toArray, List.set_cons_zero, List.set_cons_succ])
  refine wpAnyT_take (i := 1) (v := ?_) rfl (by kernel_rfl) (by kernel_rfl) (by kernel_rfl) (fun _ _ _ h => h) (Or.inl ⟨by kernel_rfl, ?_⟩) (by assumption) ?_
  rotate_left
  · intro w hSw; (try dsimp only at hSw); go_simp; (try with_reducible rfl)
  (try simp only [Act.put, List.getElem_toArray, List.getElem_cons_zero, List.getElem_cons_succ, List.setIfInBounds_toArray, List.set_cons_zero, List.set_cons_succ])
  refine wpAnyT_take (i := 2) (v := ?_) rfl (by kernel_rfl) (by kernel_rfl) (by kernel_rfl) (fun _ _ _ h => h) (Or.inl ⟨by kernel_rfl, ?_⟩) (by assumption) ?_
  rotate_left
  · intro w hSw; (try dsimp only at hSw); go_simp; (try with_reducible rfl)
  (try simp only [Act.put, List.getElem_toArray, List.getElem_cons_zero, List.getElem_cons_succ, List.setIfInBounds_toArray, List.set_cons_zero, List.set_cons_succ])
  refine wpAnyT_take (i := 3) (v := ?_) rfl (by kernel_rfl) (by kernel_rfl) (by kernel_rfl) (fun _ _ _ h => h) (Or.inl ⟨by kernel_rfl, ?_⟩) (by assumption) ?_
  rotate_left
  · intro w hSw; (try dsimp only at hSw); go_simp; (try with_reducible rfl)
  (try simp only [Act.put, List.getElem_toArray, List.getElem_cons_zero, List.getElem_cons_succ, List.setIfInBounds_toArray, List.set_cons_zero, List.set_cons_succ])
  refine wpAnyT_take (i := 4) (v := ?_) rfl (by kernel_rfl) (by kernel_rfl) (by kernel_rfl) (fun _ _ _ h => h) (Or.inl ⟨by kernel_rfl, ?_⟩) (by assumption) ?_
  rotate_left
  · intro w hSw; (try dsimp only at hSw); go_simp; (try with_reducible rfl)
  (try simp only [Act.put, List.getElem_toArray, List.getElem_cons_zero, List.getElem_cons_succ, List.setIfInBounds_toArray, List.set_cons_zero, List.set_cons_succ])
  refine wpAnyT_take (i := 5) (v := ?_) rfl (by kernel_rfl) (by kernel_rfl) (by kernel_rfl) (fun _ _ _ h => h) (Or.inl ⟨by kernel_rfl, ?_⟩) (by assumption) ?_
  rotate_left
  · intro w hSw; (try dsimp only at hSw); go_simp; (try with_reducible rfl)
  (try simp only [Act.put, List.getElem_toArray, List.getElem_cons_zero, List.getElem_cons_succ, List.setIfInBounds_toArray, List.set_cons_zero, List.set_cons_succ])
  refine wpAnyT_take (i := 6) (v := ?_) rfl (by kernel_rfl) (by kernel_rfl) (by kernel_rfl) (fun _ _ _ h => h) (Or.inl ⟨by kernel_rfl, ?_⟩) (by assumption) ?_
  rotate_left
  · intro w hSw; (try dsimp only at hSw); go_simp; (try with_reducible rfl)
  (try simp only [Act.put, List.getElem_toArray, List.getElem_cons_zero, List.getElem_cons_succ, List.setIfInBounds_toArray, List.set_cons_zero, List.set_cons_succ])
  refine wpAnyT_ready (rs := [7]) (by kernel_rfl) (by simp) ?_
  refine AllReadyT.cons rfl (fun K hK => ?_) AllReadyT.nil
  go_simp
  obtain ⟨W3, hW3⟩ : ∃ W, (w2.alloc (.cells #[.bool y.out, .string y.cls, .int .i64 y.lab] lT)).drew = W := ⟨_, rfl⟩
  have k3 : Kept w2 W3 := by rw [← hW3]; exact ((Kept.refl _).alloc _).drew
  have b3 : Blk W3 w2.heap.size lT #[.bool y.out, .string y.cls, .int .i64 y.lab] := by rw [← hW3]; exact (Blk.new _ _ _).drew
  rw [hW3]
  clear hW3
  have HT3 := Lib.hid (HT2.out.kept k3)
  have HB3 := Lib.hid (HB2.out.kept k3)
  refine hK.out _ _ ⟨by simpa using HT3.out.blk.cell 4, HT3.out.blk.frozen 4, by simpa using HB3.out.cell 0, by simpa using HB3.out.cell 1, by simpa using HB3.out.cell 2⟩ (fun hHeld1 => ?_)
  clear hK K
  (try simp only [Act.put, List.getElem_toArray, List.getElem_cons_zero, List.getElem_cons_succ, List.setIfInBounds_toArray, List.set_cons_zero, List.set_cons_succ])
  clear hHeld0
  refine wpAnyT_ready (rs := [8]) (by kernel_rfl) (by simp) ?_
  refine AllReadyT.cons rfl (fun K hK => ?_) AllReadyT.nil
  refine step_apk rfl _ _ 25 25 rfl 0 3 lT i0 _ 32 Tryd.underlying25 hi hz0 hzz1 hzz2 rfl rfl HT3.out.row rfl (lay1_src y b3) (by unfold maxLen; have := HL.out; omega) (by have := HL.out; omega) (Nat.zero_le _) ?_
  intro v' w3 hown hgrow _ hlies
  obtain ⟨va, vc, rfl⟩ := owns_slice_n hown
  have o3 : Only (fun k => cv.ownBlock = some k) W3 w3 := (Only.refl _ W3).grown hgrow fun k hk => .inl hk
  have hBv : ¬ cv.ownBlock = some B := ne_row_blk HT3.out.blk (by decide) HT3.out.row
  have hxv : ¬ cv.ownBlock = some w.heap.size := fun e => by
    rcases HH.out.row.2 with ⟨e1, _⟩ | ⟨g', cap, cur, e1, _, hh, _⟩
    · rw [e1] at e; cases e
    · rw [e1] at e
      obtain rfl : g' = w.heap.size := by simpa [Value.ownBlock] using e
      have := (Array.getElem?_eq_some_iff.1 hh).1
      omega
  have b4 := HT3.out.blk.only o3 hBv
  have c4 := HB3.out.only o3 hxv
  have hs4 : SeenAt bs ex x.s l tv t sv k w3 := HT3.out.seen.only o3 fun g hg _ e => by
    rcases hg with ⟨t', cs, hg, rfl⟩ | ⟨n, S, hg⟩ | ⟨n, f, hg⟩
    · exact ne_row_blk hg (by decide) HT3.out.row e
    · exact ne_row_map hg HT3.out.row e
    · exact ne_row_mapF hg HT3.out.row e
  have g3 := b4.cell 4
  have q3 := b4.frozen 4
  simp at g3
  refine hK.out _ _ ⟨g3, q3, by simpa using c4.cell 0, by simpa using c4.cell 1, by simpa using c4.cell 2⟩ (fun hHeld2 => ?_)
  clear hK K
  (try simp only [Act.put, List.getElem_toArray, List.getElem_cons_zero, List.getElem_cons_succ, List.setIfInBounds_toArray, List.set_cons_zero, List.set_cons_succ])
  clear hHeld1
  refine wpAnyT_take (i := 9) (v := ?_) rfl (by kernel_rfl) (by kernel_rfl) (by kernel_rfl) (fun _ _ _ h => h) (Or.inl ⟨by kernel_rfl, ?_⟩) (by assumption) ?_
  rotate_left
  · intro w hSw; (try dsimp only at hSw); go_simp; (try with_reducible rfl)
  (try simp only [Act.put, List.getElem_toArray, List.getElem_cons_zero, List.getElem_cons_succ, List.setIfInBounds_toArray, List.set_cons_zero, List.set_cons_succ])
  refine wpAnyT_take (i := 10) (v := ?_) rfl (by kernel_rfl) (by kernel_rfl) (by kernel_rfl) (fun _ _ _ h => h) (Or.inl ⟨by kernel_rfl, ?_⟩) (by assumption) ?_
  rotate_left
  · intro w hSw; (try dsimp only at hSw); go_simp; (try with_reducible rfl)
  (try simp only [Act.put, List.getElem_toArray, List.getElem_cons_zero, List.getElem_cons_succ, List.setIfInBounds_toArray, List.set_cons_zero, List.set_cons_succ])
  refine wpAnyT_take (i := 11) (v := ?_) rfl (by kernel_rfl) (by kernel_rfl) (by kernel_rfl) (fun _ _ _ h => h) (Or.inl ⟨by kernel_rfl, ?_⟩) (by assumption) ?_
  rotate_left
  · intro w hSw; (try dsimp only at hSw); go_simp; (try with_reducible rfl)
  (try simp only [Act.put, List.getElem_toArray, List.getElem_cons_zero, List.getElem_cons_succ, List.setIfInBounds_toArray, List.set_cons_zero, List.set_cons_succ])
  refine wpAnyT_ready (rs := [12]) (by kernel_rfl) (by simp) ?_
  refine AllReadyT.fin rfl (fun K hK => ?_)
  go_simp
  refine hK.out _ _ ?_
  clear hK K
  refine wpAnyT_done (by kernel_rfl) ?_ _
  clear hHeld2
  go_wp2_with fail
  go_end0
  have o4 : Only (· = B) w3 (w3.setCell ⟨B, 4, none⟩ (.slice va (l.length + 1) vc)) := (Only.refl _ _).put 4 _
  have hrow : w3.ownsRow 0 lT 3 (.slice va (l ++ [y]).length vc) (l ++ [y]).length ((l ++ [y]).flatMap lCells) := by
    rw [List.length_append, List.flatMap_append]
    simpa using hown
  have hBr := ne_row_blk b4 (by decide) hown
  have hsB : ∀ g, (∃ t cs, Blk w3 g t cs ∧ t = 91) ∨ (∃ n S, SetM g n S w3) ∨ (∃ n f, MapF Tryd.prog 9 g n f w3) → g ≠ B := fun g hg e => by
    subst e
    rcases hg with ⟨t', cs, hg, rfl⟩ | ⟨n, S, hg⟩ | ⟨n, f, hg⟩
    · exact blk_ne b4 hg (by decide) rfl
    · exact blk_ne_map b4 hg rfl
    · exact blk_ne_mapF b4 hg rfl
  have hbs : ∀ g, (Value.slice va (l.length + 1) vc).ownBlock = some g → g ∈ bs ∨ W3.heap.size ≤ g := by
    intro g hg
    rcases hlies with e | e
    · exact .inl (HT3.out.own g (e.symm.trans hg))
    · right
      rw [e] at hg
      injection hg with hg
      omega
  have hob : ∃ bs' : List Nat, (∀ g ∈ bs, g ∈ bs') ∧ (∀ g, (Value.slice va (l.length + 1) vc).ownBlock = some g → g ∈ bs') ∧ ∀ k ∈ bs', k ∈ bs ∨ W3.heap.size ≤ k := by
    cases e : (Value.slice va (l.length + 1) vc).ownBlock with
    | none => exact ⟨bs, fun _ h => h, (fun _ h => by cases h), fun _ h => .inl h⟩
    | some g => exact ⟨g :: bs, fun _ h => by simp [h], (fun _ h => by injection h with h; simp [h]), fun j hj => by
        rcases List.mem_cons.1 hj with rfl | hj
        · exact hbs _ e
        · exact .inl hj⟩
  obtain ⟨bs', h1, h2, h3⟩ := hob
  refine ⟨rfl, (bs' : List Nat), ⟨.slice va (l ++ [y]).length vc, sv, k, ?_, ?_, ?_, h1 _ HH.out.hB, ?_, ?_⟩, ?_, fun j hj => ?_⟩
  · have := b4.put 4 (.slice va (l ++ [y]).length vc)
    rw [List.length_append]
    simpa using this
  · exact owns_onlyB hrow o4 fun g hg e => hBr (by rw [← e, ← hg]; simp)
  · intro g hg; exact h2 g (by simpa using hg)
  · intro z hz
    rcases List.mem_append.1 hz with hz | hz
    · exact HH.out.fine z hz
    · simp at hz; subst hz; exact hy
  · exact ((HSN.out _ hs4).only o4 fun g hg _ => hsB g hg).more h1
  · have o5 : Only (· ∈ bs) w W3 := Only.of_kept (HK2.out.trans k3)
    have o6 : Only (· ∈ bs) W3 w3 := o3.mono fun k _ e => HT3.out.own k e
    have o7 : Only (· ∈ bs) w3 (w3.setCell ⟨B, 4, none⟩ (.slice va (l.length + 1) vc)) := o4.mono fun k _ e => by rw [e]; exact HH.out.hB
    exact (o5.trans o6).trans o7
  · have := HK2.out.size
    have := k3.size
    exact (h3 j hj).imp id fun e => by omega
end
end Go.Proofs.YtdceafncncgfbaaDoor
