/- The norm of a chain: slices.Concat, Norm, Merge, Add. -/
import Derived.Test.YtdceafncncgfbaaDoorChw
import Derived.Test.YtdceafncncgfbaaDoorShelw
import Derived.Laws.MakeOwn
set_option linter.unusedSimpArgs false
set_option linter.unusedVariables false
set_option maxRecDepth 100000
namespace Go.Proofs.YtdceafncncgfbaaDoor
open Go.ChangeShapes Go.WideShapes Go.ChangeAt Go.RowKit

/-- The first ones of two chains, one behind the other. -/
def pkL (l m : List Ly) (k : Nat) : List Ly := if k = 0 then [] else if k = 1 then l else l ++ m

/-- The marks, none set. -/
theorem info_mark : (Tryd.prog.info? 113).map (fun i => (i.zero, i.size, i.bytes)) = some (some (.agg #[.bool false]), 1, 1) := by kernel_rfl
theorem mk_new (n : Nat) (back : Bool) (F : List Bool) : madeCells (Value.agg #[.bool false]).cells (n * 1) = mkC n back (fun _ => false) F 0 := by
  unfold madeCells mkC
  simp [Value.cells, Nat.mod_one]
theorem mk_marks (n : Nat) (F : List Bool) (h : n ≤ 1000) (w : World) : (Instr.makeSlice 110 (.int .i64 (n : Int)) (.int .i64 (n : Int))).run Tryd.prog w = .ok (.slice (some ⟨w.heap.size, 0, none⟩) n n) (w.alloc (.cells (mkC n false (fun _ => false) F 0) 113)) := by
  obtain ⟨i0, hi, hz0, hz1, hz2⟩ := info_parts info_mark
  have := run_makeSlice (P := Tryd.prog) (w := w) 110 113 i0 (.agg #[.bool false]) Tryd.underlying110 hi hz0 .i64 .i64 (n : Int) (n : Int) (by omega) (by omega) (by rw [hz1]; simp; omega) (by rw [hz2]; omega) (by omega)
  rw [this, hz1]
  simp only [Int.toNat_natCast, mk_new n false F]
/-- The marks of both ways. -/
def flC (l : List Ly) : Array Value := ((Chn.fl ky l).map Value.bool).toArray
theorem mk_turn (n : Nat) (M : Nat → Bool) (F F' : List Bool) : mkC n false M F n = mkC n true (fun a => M a || (decide (atV n false a < n) && F.getD (atV n false a) false)) F' 0 := by
  unfold mkC
  simp
theorem mk_fl (l : List Ly) : mkC l.length true (fun a => (fun _ => false) a || (decide (atV l.length false a < l.length) && (Chn.fF ky (wayL false l)).getD (atV l.length false a) false)) (Chn.fF ky (wayL true l)) l.length = flC l := by
  refine Array.ext (by simp [mkC, flC, Chn.fl_len]) fun a h1 h2 => ?_
  have ha : a < l.length := by simpa [mkC] using h1
  have hF : a < (Chn.fF ky l).length := by rw [Chn.fF_len]; exact ha
  have hB : l.length - 1 - a < (Chn.fF ky l.reverse).length := by rw [Chn.fF_len]; simp; omega
  simp only [mkC, flC, Array.getElem_map, Array.getElem_range, List.getElem_toArray, List.getElem_map]
  congr 1
  rw [show atV l.length false a = a from rfl, show atV l.length true a = l.length - 1 - a from rfl, show wayL false l = l from rfl, show wayL true l = l.reverse from rfl, decide_eq_true ha, decide_eq_true (show l.length - 1 - a < l.length by omega)]
  simp only [Bool.false_or, Bool.true_and]
  rw [List.getD_eq_getElem?_getD, List.getElem?_eq_getElem hF, List.getD_eq_getElem?_getD, List.getElem?_eq_getElem hB]
  simp only [Option.getD_some]
  have h3 : (Chn.fl ky l)[a]? = some ((Chn.fF ky l)[a] || (Chn.fF ky l.reverse)[l.length - 1 - a]) := by
    unfold Chn.fl Chn.orL
    have hB2 : a < (Chn.fB ky l).length := by rw [Chn.fB_len]; exact ha
    rw [List.getElem?_zipWith, List.getElem?_eq_getElem hF, List.getElem?_eq_getElem hB2]
    simp only [Option.some.injEq]
    congr 1
    have h4 : (Chn.fB ky l)[a]? = some ((Chn.fF ky l.reverse)[l.length - 1 - a]) := by
      unfold Chn.fB
      rw [List.getElem?_reverse (by rw [Chn.fk_len]; simpa using ha)]
      rw [Chn.fk_len, List.length_reverse]
      exact List.getElem?_eq_getElem hB
    rw [List.getElem?_eq_getElem hB2] at h4
    exact Option.some.inj h4
  rw [List.getElem?_eq_getElem (by rw [Chn.fl_len]; exact ha)] at h3
  exact (Option.some.inj h3).symm
theorem flC_at {l : List Ly} {k : Nat} {b : Bool} (h : (Chn.fl ky l)[k]? = some b) : (flC l)[k]? = some (.bool b) := by
  unfold flC
  rw [List.getElem?_toArray, List.getElem?_map, h]
  rfl

/-- One layer, as a list of its own. -/
theorem one_ly (x : Ly) (hx : x.cls.size ≤ maxLen) {W : World} {g : Nat} (h : Blk W g 35 #[.bool x.out, .string x.cls, .int .i64 x.lab]) : LysAt W (.slice (some ⟨g, 0, none⟩) 1 1) [x] := by
  refine ⟨some ⟨g, 0, none⟩, 1, rfl, Nat.le_refl _, by decide, fun i y hy => ?_⟩
  have h0 : i = 0 := by
    have := (List.getElem?_eq_some_iff.1 hy).1
    simpa using this
  subst h0
  simp at hy
  subst hy
  refine ⟨g, 0, rfl, ?_⟩
  have c0 := h.cell 0
  have c1 := h.cell 1
  have c2 := h.cell 2
  simp at c0 c1 c2
  exact ⟨by simpa using c0, by simpa using c1, by simpa using c2, hx⟩

theorem pick_snoc {α : Type} {F : List Bool} {l : List α} {k : Nat} {b : Bool} {x : α} (hb : F[k]? = some b) (hx : l[k]? = some x) : Chn.pick (F.take (k + 1)) (l.take (k + 1)) = Chn.pick (F.take k) (l.take k) ++ (if b = true then [x] else []) := by
  obtain ⟨h1, _⟩ := List.getElem?_eq_some_iff.1 hb
  obtain ⟨h2, _⟩ := List.getElem?_eq_some_iff.1 hx
  rw [List.take_add_one, List.take_add_one, hb, hx, Chn.pick_app (by simp; omega)]
  cases b <;> simp [Chn.pick]

set_option maxHeartbeats 8000000 in
theorem norm_c (l : List Ly) (v : Value) (w : World) (h : LysAt w v l) (hl : l.length ≤ 1000) :
    Calls Tryd.prog 44 #[v] w fun e w' => ∃ a c, e = .returned (.slice a (Chn.norm ky l).length c) ∧ w'.ownsRow w.heap.size 35 3 (.slice a (Chn.norm ky l).length c) (Chn.norm ky l).length ((Chn.norm ky l).flatMap lCells) ∧ Kept w w' := by
  obtain ⟨i0, hi, hz0, hzz1, hzz2⟩ := info_parts info_layer
  have HL := Lib.hid h
  obtain ⟨la, lc, rfl, hlc, hcm, hat⟩ := h
  have HAT := Lib.hid hat
  clear hat
  unfold maxLen at hcm
  have hmk := mk_marks l.length (Chn.fF ky (wayL false l)) hl w
  obtain ⟨W1, hW1⟩ : ∃ W1, w.alloc (.cells (mkC l.length false (fun _ => false) (Chn.fF ky (wayL false l)) 0) 113) = W1 := ⟨_, rfl⟩
  have hk1 : Kept w W1 := by rw [← hW1]; exact (Kept.refl w).alloc _
  have hb1 : Blk W1 w.heap.size 113 (mkC l.length false (fun _ => false) (Chn.fF ky (wayL false l)) 0) := by rw [← hW1]; exact Blk.new w _ _
  rw [hW1] at hmk
  have HC1 := Lib.hid (keep_c l false w.heap.size (fun _ => false) la lc w W1 HL.out hl hk1 (Nat.le_refl _) hb1)
  have HC2 := Lib.hid (fun W hk hb => keep_c l true w.heap.size (fun a => (fun _ => false) a || (decide (atV l.length false a < l.length) && (Chn.fF ky (wayL false l)).getD (atV l.length false a) false)) la lc w W HL.out hl hk (Nat.le_refl _) hb)
  have HK1 := Lib.hid hk1
  clear hW1 hk1 hb1
  go_enter Tryd.func44, Tryd.ntmps44
  go_wp2_with fail
  refine HC1.out.mono ?_
  rintro e w2 ⟨rfl, hb2, ho2⟩
  have hk2 : Kept w w2 := HK1.out.only ho2 rfl (fun j e => by omega)
  rw [mk_turn] at hb2
  have HCC := Lib.hid (HC2.out w2 hk2 hb2)
  have HK2 := Lib.hid hk2
  clear hb2 ho2 hk2 HC1 HC2
  go_wp2_with fail
  refine HCC.out.mono ?_
  rintro e w3 ⟨rfl, hb3, ho3⟩
  have hk3 : Kept w w3 := HK2.out.only ho3 rfl (fun j e => by omega)
  rw [mk_fl] at hb3
  have HB3 := Lib.hid hb3
  have HK3 := Lib.hid hk3
  have hsz3 := hb3.lt
  clear hb3 ho3 hk3 HCC hmk
  go_wp2_with fail
  go_loopw [4, 18] (fun r i wq => ∃ (k : Nat) (a : Option Addr) (c : Nat), k ≤ l.length ∧ i = .int .i64 k ∧ r = .slice a (Chn.pick ((Chn.fl ky l).take k) (l.take k)).length c ∧
    Hid (wq.ownsRow w.heap.size 35 3 (.slice a (Chn.pick ((Chn.fl ky l).take k) (l.take k)).length c) (Chn.pick ((Chn.fl ky l).take k) (l.take k)).length ((Chn.pick ((Chn.fl ky l).take k) (l.take k)).flatMap lCells)) ∧ Hid (Blk wq w.heap.size 113 (flC l)) ∧ Kept w wq) (fun r i wq => l.length - (intOf i).toNat)
  case atStart => exact ⟨0, none, 0, by omega, rfl, rfl, Lib.hid (World.ownsRow_nil _ _ _ _), HB3, HK3.out⟩
  case round =>
    obtain ⟨k, a, c, hk, rfl, rfl, HR, HB, hkp⟩ := hrel
    have HK := Lib.hid hkp
    have hsz := hkp.size
    by_cases hlt : k < l.length
    · have hltI : (k : Int) < (l.length : Int) := by omega
      have hx : l[k]? = some l[k] := List.getElem?_eq_getElem hlt
      obtain ⟨b, hb⟩ : ∃ b, (Chn.fl ky l)[k]? = some b := ⟨_, List.getElem?_eq_getElem (by rw [Chn.fl_len]; exact hlt)⟩
      generalize l[k] = x at hx
      have HP := Lib.hid (pick_snoc hb hx)
      obtain ⟨lb, lo, rfl, hly⟩ := HAT.out _ _ hx
      obtain ⟨x0, x1, x2, x3⟩ := hly.kept hkp
      have m0 := HB.out.cell k
      rw [flC_at hb] at m0
      have hpl : (Chn.pick ((Chn.fl ky l).take k) (l.take k)).length ≤ 1000 := by
        have := Chn.pick_len_le (K := (Chn.fl ky l).take k) (l := l.take k)
        simp at this
        omega
      generalize Chn.pick ((Chn.fl ky l).take k) (l.take k) = P at *
      clear hb hx hly hkp
      obtain ⟨W2, hW2⟩ : ∃ W2, wr.alloc (.cells #[.bool b] 113) = W2 := ⟨_, rfl⟩
      have b2 : Blk W2 wr.heap.size 113 #[.bool b] := by rw [← hW2]; exact Blk.new wr _ _
      have k2 : Kept wr W2 := by rw [← hW2]; exact (Kept.refl wr).alloc _
      have s2 : W2.heap.size = wr.heap.size + 1 := by rw [← hW2]; simp
      have n0 := b2.cell 0
      simp only [List.getElem?_toArray, List.getElem?_cons_zero] at n0
      have y0 := k2.cell x0
      have y1 := k2.cell x1
      have y2 := k2.cell x2
      have HK2 := Lib.hid k2
      have B2 := Lib.hid b2
      have HW2 := Lib.hid hW2
      clear hW2 k2 b2
      cases b with
      | false =>
        have fr := B2.out.frozen 0
        have b4 := B2.out.put 0 (.bool false)
        have k4 : Kept wr (W2.setCell ⟨wr.heap.size, 0, none⟩ (.bool false)) := HK2.out.setCell (by simp) _
        have n1 := b4.cell 0
        simp at n1
        have HK2 := Lib.hid k4
        clear b4 k4
        go_wp2_with (rw [HW2.out])
        go_roundw
        case rel => exact ⟨k + 1, a, c, by omega, by go_num, by rw [HP.out, if_neg (by simp), List.append_nil], Lib.hid (by rw [HP.out, if_neg (by simp), List.append_nil]; exact owns_keptL HR.out HK2.out), Lib.hid (HB.out.kept HK2.out), HK.out.trans HK2.out⟩
        case measure => simp [intOf]; omega
      | true =>
        obtain ⟨W3, hW3⟩ : ∃ W3, W2.alloc (.cells #[.bool x.out, .string x.cls, .int .i64 x.lab] 35) = W3 := ⟨_, rfl⟩
        have k3 : Kept wr W3 := by rw [← hW3]; exact HK2.out.alloc _
        have b3 : Blk W3 (wr.heap.size + 1) 35 #[.bool x.out, .string x.cls, .int .i64 x.lab] := by rw [← hW3, ← s2]; exact Blk.new W2 _ _
        have HSR := Lib.hid (src_lys (one_ly x x3 b3))
        have HR3 := Lib.hid (owns_keptL HR.out k3)
        have HB4 := Lib.hid (HB.out.kept k3)
        have HK3 := Lib.hid (HK.out.trans k3)
        have hsz3 : w.heap.size ≤ W3.heap.size := Nat.le_trans hsz k3.size
        have HW3 := Lib.hid hW3
        clear hW3 k3 b3
        go_wp2_with (first | rw [HW2.out] | rw [HW3.out] | (at_builtin; refine wpList_apk rfl (.tmp 25) (.tmp 30) 25 25 rfl w.heap.size 3 35 i0 _ 32 Tryd.underlying25 hi hz0 hzz1 hzz2 rfl rfl HR3.out rfl HSR.out (by unfold maxLen; simp; omega) (by simp; omega) hsz3 ?_; intro v' w4 hown' hgrow hlies; rw [← List.length_append, ← List.flatMap_append] at hown'; have HN := Lib.hid hown'; have HK4 := Lib.hid (HK3.out.grown hgrow fun k e => rown_geL HR3.out e); have HB5 := Lib.hid (HB4.out.grownBy hgrow (ne_row_blk HB4.out (by decide) HR3.out)); obtain ⟨va', vc', rfl⟩ := owns_slice_nL hown'; clear hown' hgrow hlies))
        go_roundw
        case rel => exact ⟨k + 1, va', vc', by omega, by go_num, by rw [HP.out, if_pos rfl, List.length_append]; rfl, Lib.hid (by rw [HP.out, if_pos rfl]; exact HN.out), HB5, HK4.out⟩
        case measure => simp [intOf]; omega
    · obtain rfl : k = l.length := by omega
      have hltI : ¬ (l.length : Int) < (l.length : Int) := by omega
      rw [List.take_length, List.take_of_length_le (by rw [Chn.fl_len]; exact Nat.le_refl _)] at HR ⊢
      have HRN := Lib.hid (show wr.ownsRow w.heap.size 35 3 (.slice a (Chn.norm ky l).length c) (Chn.norm ky l).length ((Chn.norm ky l).flatMap lCells) from HR.out)
      rw [show Chn.pick (Chn.fl ky l) l = Chn.norm ky l from rfl]
      go_wp2_with fail
      go_ret
      exact ⟨a, c, rfl, HRN.out, HK.out⟩

end Go.Proofs.YtdceafncncgfbaaDoor
