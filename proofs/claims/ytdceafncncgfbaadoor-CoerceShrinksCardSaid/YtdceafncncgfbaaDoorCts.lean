/- showsAll: has the object all that a class has? -/
import Derived.Test.YtdceafncncgfbaaDoorCtw
import Derived.Deep.DeepCutAuto
set_option linter.unusedSimpArgs false
set_option linter.unusedVariables false
set_option maxRecDepth 100000
namespace Go.Proofs.YtdceafncncgfbaaDoor
open Go.ChangeShapes Go.WideShapes Go.ChangeAt Go.RowKit Go.Shelf
open Co (dd mb shown)

namespace Co
/-- Does an object show all members of a class? -/
def showsB (t : List Tab.C) (s : ByteArray) (l : List Ly) (b : ByteArray) : Bool := (mb t b).all fun m => decide (m ∈ mb t s) && l.all fun y => decide (m ∈ mb t y.cls)
theorem shows_of {t : List Tab.C} {s : ByteArray} {l : List Ly} {b : ByteArray} {cs : List ByteArray} (hs : s ∈ cs) (hc : ∀ c ∈ cs, c = s ∨ (∃ y ∈ l, y.cls = c) ∨ c = b) (hl : ∀ y ∈ l, y.cls ∈ cs) : decide ((shown t s (cs ++ [b])).length = (dd (mb t b)).length) = showsB t s l b := by
  rw [Bool.eq_iff_iff, decide_eq_true_iff, shown_full (by simp)]
  unfold showsB
  simp only [List.all_eq_true, Bool.and_eq_true, decide_eq_true_iff]
  constructor
  · intro h m hm
    have h1 := mem_shown.1 (h m hm)
    exact ⟨h1.1, fun y hy => h1.2 _ (by simp [hl y hy])⟩
  · intro h m hm
    refine mem_shown.2 ⟨(h m hm).1, fun c hc' => ?_⟩
    rcases List.mem_append.1 hc' with hc' | hc'
    · rcases hc c hc' with rfl | ⟨y, hy, rfl⟩ | rfl
      · exact (h m hm).1
      · exact (h m hm).2 y hy
      · exact hm
    · simp at hc'; subst hc'; exact hm
end Co

/-- What lies below: the table, and the tables of words. -/
structure Env (w0 : World) (a : Option Addr) (cp : Nat) (t : List Tab.C) : Prop where
  tab : TabAt w0 (.slice a t.length cp) t
  small : Small t
  tb : Tb w0
def At0 (w0 : World) (bs : List Nat) (w : World) : Prop := Kept w0 w ∧ ∀ j ∈ bs, w0.heap.size ≤ j
theorem At0.moved {w0 w w' : World} {bs bs' : List Nat} (h : At0 w0 bs w) (m : Moved bs bs' w w') : At0 w0 bs' w' := m.old h.1 h.2

theorem layer_elem : Tryd.prog.elem 25 = lT := by kernel_rfl
theorem slice_cut {W : World} {va : Option Addr} {n vc k : Nat} {xs : List Value} (h : W.ownsRow 0 lT 3 (.slice va n vc) n xs) (hk : k ≤ n) :
    ∃ a' c', (∀ X : World, (Instr.slice 25 (.slice va n vc) (some (.int .i64 (k : Int))) none none).run Tryd.prog X = .ok (.slice a' (n - k) c') X) ∧ (k < n → ∃ g, va = some ⟨g, 0, none⟩ ∧ a' = some ⟨g, k * 3, none⟩) := by
  have hu : Tryd.prog.underlying 25 = some (.slice (Tryd.prog.elem 25)) := by kernel_rfl
  have hs : ∀ W, (sizeOf (Tryd.prog.elem 25)).run Tryd.prog W = .ok 3 W := fun W => by rw [layer_elem]; kernel_rfl
  obtain ⟨a', c', he, hg⟩ : ∃ a' c', sliced va k n vc 3 = .slice a' (n - k) c' ∧ (k < n → ∃ g, va = some ⟨g, 0, none⟩ ∧ a' = some ⟨g, k * 3, none⟩) := by
    refine ⟨_, _, rfl, fun hlt => ?_⟩
    rcases h.2 with ⟨e, e2⟩ | ⟨g, cap, cur, e, _, _, h4, _⟩
    · omega
    · injection e with e1 e2 e3
      subst e1 e3
      refine ⟨g, rfl, ?_⟩
      simp only [Option.map_some]
      rw [if_neg (by omega)]
      simp [addr_plainL]
  refine ⟨a', c', fun X => ?_, hg⟩
  rw [run_slice_l (t := 25) (a := va) (len := n) (cap := vc) X hu .i64 (k : Int) (by omega) (by omega)]
  rw [hs]
  show Result.ok (sliced va ((k : Int)).toNat n vc 3) X = _
  rw [Int.toNat_natCast, he]

section
variable {bs : List Nat} {B : Nat} {x : Vw} {l : List Ly} {a : Option Addr} {cp : Nat} {t : List Tab.C} {came : Int}

/-- There is a view, and it has looked at k layers. -/
structure Vd (bs bs' : List Nat) (B : Nat) (x : Vw) (l : List Ly) (tv : Value) (t : List Tab.C) (came : Int) (cv : Value) (g m1 m2 : Nat) (cs : List ByteArray) (k : Nat) (w W : World) : Prop where
  blk : Blk W B tT (tC x cv tv came (.pointer (some ⟨g, 0, none⟩)) k)
  view : ViewAt g m1 m2 tv t x.s cs W
  row : W.ownsRow 0 lT 3 cv l.length (l.flatMap lCells)
  mem : g ∈ bs' ∧ m1 ∈ bs' ∧ m2 ∈ bs'
  sub : ∀ j ∈ bs, j ∈ bs'
  mov : Moved bs bs' w W
  ne : B ≠ m1 ∧ B ≠ m2
theorem Vd.kept {bs' : List Nat} {tv cv : Value} {g m1 m2 k : Nat} {cs : List ByteArray} {w W W' : World} (h : Vd bs bs' B x l tv t came cv g m1 m2 cs k w W) (kk : Kept W W') : Vd bs bs' B x l tv t came cv g m1 m2 cs k w W' :=
  ⟨h.blk.kept kk, h.view.kept kk, owns_keptL h.row kk, h.mem, h.sub, h.mov.trans (Moved.kept kk), h.ne⟩
/-- Behind narrow. -/
theorem Vd.next {bs' : List Nat} {tv cv : Value} {g m1 m2 k : Nat} {cs cs' : List ByteArray} {w W W' : World} (h : Vd bs bs' B x l tv t came cv g m1 m2 cs k w W) (hv : ViewAt g m1 m2 tv t x.s cs' W') (ho : Only (fun k => k = m1 ∨ k = m2) W W') : Vd bs bs' B x l tv t came cv g m1 m2 cs' k w W' :=
  ⟨h.blk.only ho (by rintro (e | e); exact h.ne.1 e; exact h.ne.2 e), hv, owns_onlyB h.row ho (fun g hg => by
    rintro (e | e)
    · exact ne_row_map h.view.set h.row (by rw [hg, e])
    · exact ne_row_mapF h.view.map h.row (by rw [hg, e])), h.mem, h.sub, h.mov.trans ⟨ho.mono (by
    rintro k _ (e | e)
    · rw [e]; exact h.mem.2.1
    · rw [e]; exact h.mem.2.2), fun _ h => .inl h⟩, h.ne⟩

set_option maxHeartbeats 8000000 in
theorem shows_all (b : ByteArray) (w0 w : World) (h : TrAt bs [] B x l (.slice a t.length cp) t came w) (E : Env w0 a cp t) (h0 : At0 w0 bs w) (hb : b.size ≤ maxLen) (hs : x.s.size ≤ maxLen) (hl : l.length ≤ 100000) :
    Calls Tryd.prog 79 #[.pointer (some ⟨B, 0, none⟩), .string b] w fun e w' => e = .returned (.bool (Co.showsB t x.s l b)) ∧ TrPost bs [b] B x l (.slice a t.length cp) t came w w' := by
  obtain ⟨cv, sv, k, h⟩ := h
  have g7 := h.blk.cell 7
  simp at g7
  have HH := Lib.hid h
  have HE := Lib.hid E
  have H0 := Lib.hid h0
  have HLS := Lib.hid (And.intro hb (And.intro hs hl))
  clear h E h0 hb hs hl
  go_enter Tryd.func79, Tryd.ntmps79
  go_upto_region 1 with fail
  go_cut [11] (fun s11 wx => (∃ bl, s11 = .bool bl ∧ ((bl = true ∧ sv = .pointer none ∧ k = 0) ∨ (bl = false ∧ sv ≠ .pointer none))) ∧ w = wx)
  case rest =>
    obtain ⟨⟨bl, rfl, hbl⟩, rfl⟩ := hcut
    go_upto_if 11 with fail
    go_cut [] (fun wx => ∃ bs' g m1 m2 cs k, Hid (Vd bs bs' B x l (.slice a t.length cp) t came cv g m1 m2 cs k w wx) ∧ Hid (k ≤ l.length ∧ x.s ∈ cs ∧ (∀ c ∈ cs, c = x.s ∨ (∃ y ∈ l, y.cls = c)) ∧ (∀ y ∈ l.take k, y.cls ∈ cs) ∧ cs.length ≤ 1 + k + 2 * l.length))
    case rest =>
      obtain ⟨bs', g, m1, m2, cs, k, HV, HC⟩ := hcut
      clear g7 hbl
      obtain ⟨va, vc, rfl⟩ := owns_slice_n HH.out.row
      have hll := HLS.out.2.2
      have hk := HC.out.1
      obtain ⟨a', c', hsl, hg⟩ := slice_cut HV.out.row hk
      have g4 := HV.out.blk.cell 4
      have g8 := HV.out.blk.cell 8
      simp at g4 g8
      have HG := Lib.hid hg
      clear hg
      go_wp2_with fail
      refine wp_region_held_drew (S := (fun W => W.cell? ⟨B, 4, none⟩ = some (.slice va l.length vc) ∧ W.cell? ⟨B, 8, none⟩ = some (.int .i64 (k : Int)) ∧ (Instr.slice 25 (.slice va l.length vc) (some (.int .i64 (k : Int))) none none).run Tryd.prog W = .ok (.slice a' (l.length - k) c') W)) (by kernel_rfl) ⟨g4, g8, hsl _⟩ (fun hHeld0 => ?_)
      refine wpAnyH_take (i := 0) (v := ?_) rfl (by kernel_rfl) (by kernel_rfl) (by kernel_rfl) (fun _ _ _ h => h) (Or.inl ⟨by kernel_rfl, ?_⟩) (by assumption) ?_
      rotate_left
      · intro w hSw; (try dsimp only at hSw); go_simp; (try with_reducible rfl)
      (try simp only [Act.put, List.getElem_toArray, List.getElem_cons_zero, List.getElem_cons_succ, List.setIfInBounds_toArray, List.set_cons_zero, List.set_cons_succ])
      refine wpAnyH_take (i := 1) (v := ?_) rfl (by kernel_rfl) (by kernel_rfl) (by kernel_rfl) (fun _ _ _ h => h) (Or.inl ⟨by kernel_rfl, ?_⟩) (by assumption) ?_
      rotate_left
      · intro w hSw; (try dsimp only at hSw); go_simp; (try with_reducible rfl)
      (try simp only [Act.put, List.getElem_toArray, List.getElem_cons_zero, List.getElem_cons_succ, List.setIfInBounds_toArray, List.set_cons_zero, List.set_cons_succ])
      refine wpAnyH_take (i := 2) (v := ?_) rfl (by kernel_rfl) (by kernel_rfl) (by kernel_rfl) (fun _ _ _ h => h) (Or.inl ⟨by kernel_rfl, ?_⟩) (by assumption) ?_
      rotate_left
      · intro w hSw; (try dsimp only at hSw); go_simp; (try with_reducible rfl)
      (try simp only [Act.put, List.getElem_toArray, List.getElem_cons_zero, List.getElem_cons_succ, List.setIfInBounds_toArray, List.set_cons_zero, List.set_cons_succ])
      refine wpAnyH_take (i := 3) (v := ?_) rfl (by kernel_rfl) (by kernel_rfl) (by kernel_rfl) (fun _ _ _ h => h) (Or.inl ⟨by kernel_rfl, ?_⟩) (by assumption) ?_
      rotate_left
      · intro w hSw; (try dsimp only at hSw); go_simp; (try with_reducible rfl)
      (try simp only [Act.put, List.getElem_toArray, List.getElem_cons_zero, List.getElem_cons_succ, List.setIfInBounds_toArray, List.set_cons_zero, List.set_cons_succ])
      refine wpAnyH_take (i := 4) (v := ?_) rfl (by kernel_rfl) (by kernel_rfl) (by kernel_rfl) (fun _ _ _ h => h) (Or.inl ⟨by kernel_rfl, ?_⟩) (by assumption) ?_
      rotate_left
      · intro w hSw; (try dsimp only at hSw); go_simp; (try with_reducible rfl)
      (try simp only [Act.put, List.getElem_toArray, List.getElem_cons_zero, List.getElem_cons_succ, List.setIfInBounds_toArray, List.set_cons_zero, List.set_cons_succ])
      refine wpAnyH_take (i := 5) (v := ?_) rfl (by kernel_rfl) (by kernel_rfl) (by kernel_rfl) (fun _ _ _ h => h) (Or.inl ⟨by kernel_rfl, ?_⟩) (by assumption) ?_
      rotate_left
      · intro w hSw; (try dsimp only at hSw); go_simp; (try with_reducible rfl)
      (try simp only [Act.put, List.getElem_toArray, List.getElem_cons_zero, List.getElem_cons_succ, List.setIfInBounds_toArray, List.set_cons_zero, List.set_cons_succ])
      refine wpAnyH_take (i := 6) (v := ?_) rfl (by kernel_rfl) (by kernel_rfl) (by kernel_rfl) (fun _ _ _ h => h) (Or.inl ⟨by kernel_rfl, ?_⟩) (by assumption) ?_
      rotate_left
      · intro w hSw; (try dsimp only at hSw); go_simp; (try with_reducible rfl)
      (try simp only [Act.put, List.getElem_toArray, List.getElem_cons_zero, List.getElem_cons_succ, List.setIfInBounds_toArray, List.set_cons_zero, List.set_cons_succ])
      refine wpAnyH_take (i := 7) (v := ?_) rfl (by kernel_rfl) (by kernel_rfl) (by kernel_rfl) (fun _ _ _ h => h) (Or.inl ⟨by kernel_rfl, ?_⟩) (by assumption) ?_
      rotate_left
      · intro w hSw; (try dsimp only at hSw); go_simp; (try with_reducible rfl)
      (try simp only [Act.put, List.getElem_toArray, List.getElem_cons_zero, List.getElem_cons_succ, List.setIfInBounds_toArray, List.set_cons_zero, List.set_cons_succ])
      refine wpAnyH_take (i := 8) (v := ?_) rfl (by kernel_rfl) (by kernel_rfl) (by kernel_rfl) (fun _ _ _ h => h) (Or.inl ⟨by kernel_rfl, ?_⟩) (by assumption) ?_
      rotate_left
      · intro w hSw; (try dsimp only at hSw); go_simp; (try with_reducible rfl)
      (try simp only [Act.put, List.getElem_toArray, List.getElem_cons_zero, List.getElem_cons_succ, List.setIfInBounds_toArray, List.set_cons_zero, List.set_cons_succ])
      refine wpAnyH_take (i := 11) (v := ?_) rfl (by kernel_rfl) (by kernel_rfl) (by kernel_rfl) (fun _ _ _ h => h) (Or.inl ⟨by kernel_rfl, ?_⟩) (by assumption) ?_
      rotate_left
      · intro w hSw; (try dsimp only at hSw); go_simp; (try with_reducible rfl)
      (try simp only [Act.put, List.getElem_toArray, List.getElem_cons_zero, List.getElem_cons_succ, List.setIfInBounds_toArray, List.set_cons_zero, List.set_cons_succ])
      refine wpAnyH_ready (rs := [9]) (by kernel_rfl) (by simp) ?_
      refine AllReadyH.cons rfl (fun K hK => ?_) AllReadyH.nil
      go_simp
      refine hK.out _ _ hHeld0 (fun hHeld1 => ?_)
      clear hK K
      (try simp only [Act.put, List.getElem_toArray, List.getElem_cons_zero, List.getElem_cons_succ, List.setIfInBounds_toArray, List.set_cons_zero, List.set_cons_succ])
      refine wpAnyH_take (i := 10) (v := ?_) rfl (by kernel_rfl) (by kernel_rfl) (by kernel_rfl) (fun _ _ _ h => h) (Or.inl ⟨by kernel_rfl, ?_⟩) (by assumption) ?_
      rotate_left
      · intro w hSw; (try dsimp only at hSw); go_simp; (try with_reducible rfl)
      (try simp only [Act.put, List.getElem_toArray, List.getElem_cons_zero, List.getElem_cons_succ, List.setIfInBounds_toArray, List.set_cons_zero, List.set_cons_succ])
      refine wpAnyH_done (by kernel_rfl) ?_ _
      clear hHeld0 hHeld1 g4 g8
      go_wp2_with fail
      go_loopw [36] (fun q wr => ∃ j : Nat, q = .int .i64 j ∧ j ≤ l.length - k ∧ Vd bs bs' B x l (.slice a t.length cp) t came (.slice va l.length vc) g m1 m2 (cs ++ ((l.drop k).take j).map (·.cls)) k w wr) (fun q wr => (l.length - k) - (intOf q).toNat)
      case atStart => exact ⟨0, rfl, Nat.zero_le _, by simpa using HV.out.kept (Kept.refl _).drew⟩
      case round =>
        obtain ⟨j, rfl, hj, hV⟩ := hrel
        by_cases hlt : j < l.length - k
        · have hltI : (j : Int) < ((l.length - k : Nat) : Int) := by omega
          have hkj : k + j < l.length := by omega
          have hxl : l[k + j]? = some l[k + j] := List.getElem?_eq_getElem hkj
          have hfx := HH.out.fine _ (List.getElem_mem hkj)
          generalize l[k + j] = y at hxl hfx
          have hx : (l.drop k)[j]? = some y := by rw [List.getElem?_drop]; exact hxl
          obtain ⟨g', rfl, rfl⟩ := HG.out (by omega)
          have c0 : wr.cell? ⟨g', k * 3 + j * 3, none⟩ = some (.bool y.out) := by
            have := hV.row.cells (g := g') rfl _ _ (flat_at lCells lCells_len l (k + j) 0 y hxl (by omega))
            rw [addr_plainL, show 0 + ((k + j) * 3 + 0) = k * 3 + j * 3 by omega] at this
            simpa [lCells] using this
          have c1 : wr.cell? ⟨g', k * 3 + j * 3 + 1, none⟩ = some (.string y.cls) := by
            have := hV.row.cells (g := g') rfl _ _ (flat_at lCells lCells_len l (k + j) 1 y hxl (by omega))
            rw [addr_plainL, show 0 + ((k + j) * 3 + 1) = k * 3 + j * 3 + 1 by omega] at this
            simpa [lCells] using this
          have c2 : wr.cell? ⟨g', k * 3 + j * 3 + 2, none⟩ = some (.int .i64 y.lab) := by
            have := hV.row.cells (g := g') rfl _ _ (flat_at lCells lCells_len l (k + j) 2 y hxl (by omega))
            rw [addr_plainL, show 0 + ((k + j) * 3 + 2) = k * 3 + j * 3 + 2 by omega] at this
            simpa [lCells] using this
          obtain ⟨W1, hW1⟩ : ∃ W, wr.alloc (.cells #[.bool y.out, .string y.cls, .int .i64 y.lab] lT) = W := ⟨_, rfl⟩
          have k1 : Kept wr W1 := by rw [← hW1]; exact (Kept.refl _).alloc _
          have b1 : Blk W1 wr.heap.size lT #[.bool y.out, .string y.cls, .int .i64 y.lab] := by rw [← hW1]; exact Blk.new _ _ _
          have HV1 := Lib.hid ((hV.kept k1).kept (Kept.refl W1).drew)
          have A1 := H0.out.moved HV1.out.mov
          have HN := Lib.hid (narrow_c g m1 m2 a cp t x.s (cs ++ ((l.drop k).take j).map (·.cls)) y.cls W1.drew HV1.out.view (tab_kept HE.out.tab A1.1) HE.out.small hfx (by
            have := HC.out.2.2.2.2
            have := HLS.out.2.2
            simp
            omega))
          have HX := Lib.hid (show ((l.drop k).take (j + 1)).map (·.cls) = ((l.drop k).take j).map (·.cls) ++ [y.cls] by rw [List.take_add_one, hx]; simp)
          have g7 := (hV.kept k1).blk.cell 7
          have y1 := b1.cell 1
          simp at g7 y1
          have HW1 := Lib.hid hW1
          have HB1 := Lib.hid (b1.kept (Kept.refl W1).drew)
          have HLT := Lib.hid (And.intro hV.view.set.lt hV.view.map.lt)
          clear hV hx hxl hfx k1 b1 A1 hW1
          go_wp2_with (first | rw [HW1.out])
          refine wp_region_held_drew (S := (fun W => W.cell? ⟨B, 7, none⟩ = some (.pointer (some ⟨g, 0, none⟩)) ∧ W.cell? ⟨wr.heap.size, 1, none⟩ = some (.string y.cls))) (by kernel_rfl) ⟨g7, y1⟩ (fun hHeld0 => ?_)
          refine wpAnyH_take (i := 0) (v := ?_) rfl (by kernel_rfl) (by kernel_rfl) (by kernel_rfl) (fun _ _ _ h => h) (Or.inl ⟨by kernel_rfl, ?_⟩) (by assumption) ?_
          rotate_left
          · intro w hSw; (try dsimp only at hSw); go_simp; (try with_reducible rfl)
          (try simp only [Act.put, List.getElem_toArray, List.getElem_cons_zero, List.getElem_cons_succ, List.setIfInBounds_toArray, List.set_cons_zero, List.set_cons_succ])
          refine wpAnyH_take (i := 1) (v := ?_) rfl (by kernel_rfl) (by kernel_rfl) (by kernel_rfl) (fun _ _ _ h => h) (Or.inl ⟨by kernel_rfl, ?_⟩) (by assumption) ?_
          rotate_left
          · intro w hSw; (try dsimp only at hSw); go_simp; (try with_reducible rfl)
          (try simp only [Act.put, List.getElem_toArray, List.getElem_cons_zero, List.getElem_cons_succ, List.setIfInBounds_toArray, List.set_cons_zero, List.set_cons_succ])
          refine wpAnyH_take (i := 2) (v := ?_) rfl (by kernel_rfl) (by kernel_rfl) (by kernel_rfl) (fun _ _ _ h => h) (Or.inl ⟨by kernel_rfl, ?_⟩) (by assumption) ?_
          rotate_left
          · intro w hSw; (try dsimp only at hSw); go_simp; (try with_reducible rfl)
          (try simp only [Act.put, List.getElem_toArray, List.getElem_cons_zero, List.getElem_cons_succ, List.setIfInBounds_toArray, List.set_cons_zero, List.set_cons_succ])
          refine wpAnyH_take (i := 3) (v := ?_) rfl (by kernel_rfl) (by kernel_rfl) (by kernel_rfl) (fun _ _ _ h => h) (Or.inl ⟨by kernel_rfl, ?_⟩) (by assumption) ?_
          rotate_left
          · intro w hSw; (try dsimp only at hSw); go_simp; (try with_reducible rfl)
          (try simp only [Act.put, List.getElem_toArray, List.getElem_cons_zero, List.getElem_cons_succ, List.setIfInBounds_toArray, List.set_cons_zero, List.set_cons_succ])
          refine wpAnyH_take (i := 4) (v := ?_) rfl (by kernel_rfl) (by kernel_rfl) (by kernel_rfl) (fun _ _ _ h => h) (Or.inl ⟨by kernel_rfl, ?_⟩) (by assumption) ?_
          rotate_left
          · intro w hSw; (try dsimp only at hSw); go_simp; (try with_reducible rfl)
          (try simp only [Act.put, List.getElem_toArray, List.getElem_cons_zero, List.getElem_cons_succ, List.setIfInBounds_toArray, List.set_cons_zero, List.set_cons_succ])
          refine wpAnyH_take (i := 5) (v := ?_) rfl (by kernel_rfl) (by kernel_rfl) (by kernel_rfl) (fun _ _ _ h => h) (Or.inl ⟨by kernel_rfl, ?_⟩) (by assumption) ?_
          rotate_left
          · intro w hSw; (try dsimp only at hSw); go_simp; (try with_reducible rfl)
          (try simp only [Act.put, List.getElem_toArray, List.getElem_cons_zero, List.getElem_cons_succ, List.setIfInBounds_toArray, List.set_cons_zero, List.set_cons_succ])
          refine wpAnyH_ready (rs := [6]) (by kernel_rfl) (by simp) ?_
          refine AllReadyH.cons rfl (fun K hK => ?_) AllReadyH.nil
          go_simp
          refine HN.out.mono ?_
          rintro e w3 ⟨rfl, hv3, o3⟩
          have HV3 := Lib.hid (HV1.out.next hv3 o3)
          have g7' := HV3.out.blk.cell 7
          simp at g7'
          refine hK.out _ _ ⟨g7', ?_⟩ (fun hHeld1 => ?_)
          · have := HLT.out
            have := (HB1.out.only o3 (by rintro (e | e) <;> omega)).cell 1
            simpa using this
          clear hK K
          (try simp only [Act.put, List.getElem_toArray, List.getElem_cons_zero, List.getElem_cons_succ, List.setIfInBounds_toArray, List.set_cons_zero, List.set_cons_succ])
          refine wpAnyH_done (by kernel_rfl) ?_ _
          clear hHeld0 hHeld1
          go_wp2_with fail
          go_roundw
          case rel => exact ⟨j + 1, by go_num, by omega, by rw [HX.out, ← List.append_assoc]; exact HV3.out⟩
          case measure => simp [intOf]; omega
        · have hltI : ¬ (j : Int) < ((l.length - k : Nat) : Int) := by omega
          obtain rfl : j = l.length - k := by omega
          rw [show (l.drop k).take (l.length - k) = l.drop k from List.take_of_length_le (by simp)] at hV
          obtain ⟨cs1, hcs1⟩ : ∃ cs1, cs ++ (l.drop k).map (·.cls) = cs1 := ⟨_, rfl⟩
          rw [hcs1] at hV
          have f1 : x.s ∈ cs1 := by rw [← hcs1]; exact List.mem_append_left _ HC.out.2.1
          have f2 : ∀ c ∈ cs1, c = x.s ∨ (∃ y ∈ l, y.cls = c) := by
            intro c hc
            rw [← hcs1] at hc
            rcases List.mem_append.1 hc with hc | hc
            · exact HC.out.2.2.1 c hc
            · obtain ⟨y, hy, e⟩ := List.mem_map.1 hc
              exact .inr ⟨y, List.mem_of_mem_drop hy, e⟩
          have f3 : ∀ y ∈ l, y.cls ∈ cs1 := by
            intro y hy
            rw [← hcs1]
            rw [← List.take_append_drop k l] at hy
            rcases List.mem_append.1 hy with hy | hy
            · exact List.mem_append_left _ (HC.out.2.2.2.1 y hy)
            · exact List.mem_append_right _ (List.mem_map.2 ⟨y, hy, rfl⟩)
          have f4 : cs1.length ≤ 1 + l.length + 2 * l.length := by
            rw [← hcs1]
            have := HC.out.2.2.2.2
            simp
            omega
          have HQ := Lib.hid (Co.shows_of (t := t) (b := b) f1 (fun c hc => (f2 c hc).imp id .inl) f3)
          have HF := Lib.hid (And.intro f1 (And.intro f2 (And.intro f3 f4)))
          obtain ⟨W2, hW2⟩ : ∃ W, wr.setCell ⟨B, 8, none⟩ (.int .i64 (l.length : Int)) = W := ⟨_, rfl⟩
          have o2 : Only (· = B) wr W2 := by rw [← hW2]; exact (Only.refl _ _).put 8 _
          have HV2 := Lib.hid (show Vd bs bs' B x l (.slice a t.length cp) t came (.slice va l.length vc) g m1 m2 cs1 l.length w W2 from by
            refine ⟨?_, hV.view.only o2 (fun e => blk_ne hV.blk hV.view.blk (by decide) e.symm) (fun e => hV.ne.1 e.symm) (fun e => hV.ne.2 e.symm), owns_onlyB hV.row o2 (fun q hq e => ne_row_blk hV.blk (by decide) hV.row (by rw [hq, e])), hV.mem, hV.sub, hV.mov.trans ⟨o2.mono fun k _ e => by rw [e]; exact hV.sub _ HH.out.hB, fun _ h => .inl h⟩, hV.ne⟩
            have := hV.blk.put 8 (.int .i64 (l.length : Int))
            rw [← hW2]
            simpa using this)
          have A2 := H0.out.moved HV2.out.mov
          have HN := Lib.hid (narrow_c g m1 m2 a cp t x.s cs1 b W2 HV2.out.view (tab_kept HE.out.tab A2.1) HE.out.small HLS.out.1 (by omega))
          have g4 := hV.blk.cell 4
          have g8 := hV.blk.cell 8
          have q8 := hV.blk.frozen 8
          have g7 := HV2.out.blk.cell 7
          simp at g4 g8 g7
          have HW2 := Lib.hid hW2
          clear hV f1 f2 f3 f4 o2 hW2 A2 hcs1
          go_wp2_with (first | rw [HW2.out])
          refine HN.out.mono ?_
          rintro e w3 ⟨rfl, hv3, o3⟩
          have HV3 := HV2.out.next hv3 o3
          go_wp2_with fail
          go_ret
          refine ⟨by rw [← HQ.out]; rfl, bs', ⟨_, _, _, HV3.blk, HV3.row, fun q hq => HV3.sub _ (HH.out.own q hq), HV3.sub _ HH.out.hB, HH.out.fine, .inr ⟨g, m1, m2, cs1 ++ [b], rfl, HV3.view, HV3.mem, Nat.le_refl _, List.mem_append_left _ HF.out.1, fun c hc => ?_, fun y hy => List.mem_append_left _ (HF.out.2.2.1 y (List.mem_of_mem_take hy)), ?_⟩⟩, HV3.mov⟩
          · rcases List.mem_append.1 hc with hc | hc
            · exact (HF.out.2.1 c hc).imp id .inl
            · exact .inr (.inr hc)
          · have := HF.out.2.2.2
            simp
            omega
    rcases hbl with ⟨rfl, rfl, rfl⟩ | ⟨rfl, hsv⟩
    · have g5 := HH.out.blk.cell 5
      have g3 := HH.out.blk.cell 3
      have q7 := HH.out.blk.frozen 7
      simp at g5 g3
      have HLK := Lib.hid (look_c a cp t x.s w.drew (tab_kept HE.out.tab H0.out.1.drew) HE.out.small HLS.out.2.1)
      go_wp2_with fail
      refine wp_region_till (S := (fun W => W.cell? ⟨B, 5, none⟩ = some (.slice a t.length cp) ∧ W.cell? ⟨B, 3, none⟩ = some (.string x.s))) 13 (by kernel_rfl) ⟨g5, g3⟩ (fun hHeld0 => ?_)
      refine wpAnyT_take (i := 0) (v := ?_) rfl (by kernel_rfl) (by kernel_rfl) (by kernel_rfl) (fun _ _ _ h => h) (Or.inl ⟨by kernel_rfl, ?_⟩) (by assumption) ?_
      rotate_left
      · intro w hSw; (try dsimp only at hSw); go_simp; (try with_reducible rfl)
      (try simp only [Act.put, List.getElem_toArray, List.getElem_cons_zero, List.getElem_cons_succ, List.setIfInBounds_toArray, List.set_cons_zero, List.set_cons_succ])
      refine wpAnyT_take (i := 1) (v := ?_) rfl (by kernel_rfl) (by kernel_rfl) (by kernel_rfl) (fun _ _ _ h => h) (Or.inl ⟨by kernel_rfl, ?_⟩) (by assumption) ?_
      rotate_left
      · intro w hSw; (try dsimp only at hSw); go_simp; (try with_reducible rfl)
      (try simp only [Act.put, List.getElem_toArray, List.getElem_cons_zero, List.getElem_cons_succ, List.setIfInBounds_toArray, List.set_cons_zero, List.set_cons_succ])
      refine wpAnyT_take (i := 2) (v := ?_) rfl (by kernel_rfl) (by kernel_rfl) (by kernel_rfl) (fun _ _ _ h => h) (Or.inl ⟨by kernel_rfl, ?_⟩) (by assumption) ?_
      rotate_left
      · intro w hSw; (try dsimp only at hSw); go_simp; (try with_reducible rfl)
      (try simp only [Act.put, List.getElem_toArray, List.getElem_cons_zero, List.getElem_cons_succ, List.setIfInBounds_toArray, List.set_cons_zero, List.set_cons_succ])
      refine wpAnyT_take (i := 3) (v := ?_) rfl (by kernel_rfl) (by kernel_rfl) (by kernel_rfl) (fun _ _ _ h => h) (Or.inl ⟨by kernel_rfl, ?_⟩) (by assumption) ?_
      rotate_left
      · intro w hSw; (try dsimp only at hSw); go_simp; (try with_reducible rfl)
      (try simp only [Act.put, List.getElem_toArray, List.getElem_cons_zero, List.getElem_cons_succ, List.setIfInBounds_toArray, List.set_cons_zero, List.set_cons_succ])
      refine wpAnyT_take (i := 4) (v := ?_) rfl (by kernel_rfl) (by kernel_rfl) (by kernel_rfl) (fun _ _ _ h => h) (Or.inl ⟨by kernel_rfl, ?_⟩) (by assumption) ?_
      rotate_left
      · intro w hSw; (try dsimp only at hSw); go_simp; (try with_reducible rfl)
      (try simp only [Act.put, List.getElem_toArray, List.getElem_cons_zero, List.getElem_cons_succ, List.setIfInBounds_toArray, List.set_cons_zero, List.set_cons_succ])
      refine wpAnyT_take (i := 5) (v := ?_) rfl (by kernel_rfl) (by kernel_rfl) (by kernel_rfl) (fun _ _ _ h => h) (Or.inl ⟨by kernel_rfl, ?_⟩) (by assumption) ?_
      rotate_left
      · intro w hSw; (try dsimp only at hSw); go_simp; (try with_reducible rfl)
      (try simp only [Act.put, List.getElem_toArray, List.getElem_cons_zero, List.getElem_cons_succ, List.setIfInBounds_toArray, List.set_cons_zero, List.set_cons_succ])
      refine wpAnyT_take (i := 6) (v := ?_) rfl (by kernel_rfl) (by kernel_rfl) (by kernel_rfl) (fun _ _ _ h => h) (Or.inl ⟨by kernel_rfl, ?_⟩) (by assumption) ?_
      rotate_left
      · intro w hSw; (try dsimp only at hSw); go_simp; (try with_reducible rfl)
      (try simp only [Act.put, List.getElem_toArray, List.getElem_cons_zero, List.getElem_cons_succ, List.setIfInBounds_toArray, List.set_cons_zero, List.set_cons_succ])
      refine wpAnyT_take (i := 7) (v := ?_) rfl (by kernel_rfl) (by kernel_rfl) (by kernel_rfl) (fun _ _ _ h => h) (Or.inl ⟨by kernel_rfl, ?_⟩) (by assumption) ?_
      rotate_left
      · intro w hSw; (try dsimp only at hSw); go_simp; (try with_reducible rfl)
      (try simp only [Act.put, List.getElem_toArray, List.getElem_cons_zero, List.getElem_cons_succ, List.setIfInBounds_toArray, List.set_cons_zero, List.set_cons_succ])
      refine wpAnyT_take (i := 8) (v := ?_) rfl (by kernel_rfl) (by kernel_rfl) (by kernel_rfl) (fun _ _ _ h => h) (Or.inl ⟨by kernel_rfl, ?_⟩) (by assumption) ?_
      rotate_left
      · intro w hSw; (try dsimp only at hSw); go_simp; (try with_reducible rfl)
      (try simp only [Act.put, List.getElem_toArray, List.getElem_cons_zero, List.getElem_cons_succ, List.setIfInBounds_toArray, List.set_cons_zero, List.set_cons_succ])
      refine wpAnyT_take (i := 9) (v := ?_) rfl (by kernel_rfl) (by kernel_rfl) (by kernel_rfl) (fun _ _ _ h => h) (Or.inl ⟨by kernel_rfl, ?_⟩) (by assumption) ?_
      rotate_left
      · intro w hSw; (try dsimp only at hSw); go_simp; (try with_reducible rfl)
      (try simp only [Act.put, List.getElem_toArray, List.getElem_cons_zero, List.getElem_cons_succ, List.setIfInBounds_toArray, List.set_cons_zero, List.set_cons_succ])
      refine wpAnyT_ready (rs := [10]) (by kernel_rfl) (by simp) ?_
      refine AllReadyT.cons rfl (fun K hK => ?_) AllReadyT.nil
      go_simp
      refine HLK.out.mono ?_
      rintro e w3 ⟨rfl, hv3, k3⟩
      have k3' : Kept w w3 := (Kept.refl w).drew.trans k3
      have HT3 := Lib.hid (HH.out.kept k3')
      have g5' := HT3.out.blk.cell 5
      have g3' := HT3.out.blk.cell 3
      have g7' := HT3.out.blk.cell 7
      have q7' := HT3.out.blk.frozen 7
      simp at g5' g3' g7'
      have HV3 := Lib.hid hv3
      have HK3 := Lib.hid k3'
      clear hv3 k3 k3' hHeld0
      refine hK.out _ _ ⟨g5', g3'⟩ (fun hHeld1 => ?_)
      clear hK K
      (try simp only [Act.put, List.getElem_toArray, List.getElem_cons_zero, List.getElem_cons_succ, List.setIfInBounds_toArray, List.set_cons_zero, List.set_cons_succ])
      refine wpAnyT_take (i := 11) (v := ?_) rfl (by kernel_rfl) (by kernel_rfl) (by kernel_rfl) (fun _ _ _ h => h) (Or.inl ⟨by kernel_rfl, ?_⟩) (by assumption) ?_
      rotate_left
      · intro w hSw; (try dsimp only at hSw); go_simp; (try with_reducible rfl)
      (try simp only [Act.put, List.getElem_toArray, List.getElem_cons_zero, List.getElem_cons_succ, List.setIfInBounds_toArray, List.set_cons_zero, List.set_cons_succ])
      refine wpAnyT_take (i := 12) (v := ?_) rfl (by kernel_rfl) (by kernel_rfl) (by kernel_rfl) (fun _ _ _ h => h) (Or.inl ⟨by kernel_rfl, ?_⟩) (by assumption) ?_
      rotate_left
      · intro w hSw; (try dsimp only at hSw); go_simp; (try with_reducible rfl)
      (try simp only [Act.put, List.getElem_toArray, List.getElem_cons_zero, List.getElem_cons_succ, List.setIfInBounds_toArray, List.set_cons_zero, List.set_cons_succ])
      refine wpAnyT_ready (rs := [13]) (by kernel_rfl) (by simp) ?_
      refine AllReadyT.fin rfl (fun K hK => ?_)
      go_simp
      refine hK.out _ _ ?_
      clear hK K
      refine wpAnyT_done (by kernel_rfl) ?_ _
      clear hHeld1
      go_wp2_with fail
      go_meet
      have o4 : Only (· = B) w3 (w3.setCell ⟨B, 7, none⟩ (.pointer (some ⟨w.heap.size + 1, 0, none⟩))) := (Only.refl _ _).put 7 _
      have hBl := HH.out.blk.lt
      have z0 : w.drew.heap.size = w.heap.size := rfl
      rw [z0] at HV3
      have b4 : Blk (w3.setCell ⟨B, 7, none⟩ (.pointer (some ⟨w.heap.size + 1, 0, none⟩))) B tT (tC x cv (.slice a t.length cp) came (.pointer (some ⟨w.heap.size + 1, 0, none⟩)) (0 : Nat)) := by
        have := HT3.out.blk.put 7 (.pointer (some ⟨w.heap.size + 1, 0, none⟩))
        simpa using this
      refine ⟨(w.heap.size + 1) :: (w.heap.size + 2) :: w.heap.size :: bs, _, _, _, [x.s], 0, Lib.hid ⟨b4, HV3.out.only o4 (by omega) (by omega) (by omega), owns_onlyB HT3.out.row o4 (fun q hq e => ne_row_blk HT3.out.blk (by decide) HT3.out.row (by rw [hq, e])), ⟨by simp, by simp, by simp⟩, fun j hj => by simp [hj], ⟨?_, ?_⟩, ⟨by omega, by omega⟩⟩, Lib.hid ⟨Nat.zero_le _, by simp, fun c hc => ?_, by simp, by simp⟩⟩
      · exact (Only.of_kept HK3.out).trans (o4.mono fun k _ e => by rw [e]; exact HH.out.hB)
      · intro j hj
        simp at hj
        rcases hj with e | e | e | e
        · exact .inr (by omega)
        · exact .inr (by omega)
        · exact .inr (by omega)
        · exact .inl e
      · simp at hc
        exact .inl hc
    · rcases HH.out.seen with ⟨e, _⟩ | ⟨g, m1, m2, cs, e, hv, hm, r⟩
      · exact absurd e hsv
      · have HX := Lib.hid (And.intro hv (And.intro hm r))
        subst e
        clear hv hm r hsv
        go_wp2_with fail
        go_meet
        exact ⟨bs, g, m1, m2, cs, k, Lib.hid ⟨HH.out.blk, HX.out.1, HH.out.row, HX.out.2.1, fun _ h => h, Moved.refl _ _, ⟨blk_ne_map HH.out.blk HX.out.1.set, blk_ne_mapF HH.out.blk HX.out.1.map⟩⟩, Lib.hid ⟨HX.out.2.2.1, HX.out.2.2.2.1, fun c hc => (HX.out.2.2.2.2.1 c hc).imp id (fun h => h.elim id (fun h => by simp at h)), HX.out.2.2.2.2.2.1, by have := HX.out.2.2.2.2.2.2; simpa using this⟩⟩
  rcases HH.out.seen with ⟨e, e0⟩ | ⟨g, m1, m2, cs, e, _⟩
  · rw [e] at g7
    go_wp2_with fail
    go_meet
    exact ⟨⟨true, rfl, .inl ⟨rfl, e, e0⟩⟩, rfl⟩
  · rw [e] at g7
    go_wp2_with fail
    go_meet
    exact ⟨⟨false, rfl, .inr ⟨rfl, by rw [e]; simp⟩⟩, rfl⟩
end
end Go.Proofs.YtdceafncncgfbaaDoor
