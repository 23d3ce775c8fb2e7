/- The chapter's values and its table; SameValue; what an answer is. -/
import Derived.Test.YtdceafncncgfbaaDoorCof
import Derived.Test.YtdceafncncgfbaaDoorCsh
import Derived.Test.YtdceafncncgfbaaDoorChs
set_option linter.unusedSimpArgs false
set_option linter.unusedVariables false
set_option maxRecDepth 100000
namespace Go.Proofs.YtdceafncncgfbaaDoor
open Go.ChangeShapes Go.WideShapes Go.ChangeAt Go.RowKit Go.Shelf

deriving instance DecidableEq for Vw
abbrev e0w : ByteArray := ⟨#[]⟩
def Co.valR (x : Vw) : Except Int (List Ly) → Vw × List Ly
  | .ok l => (x, l)
  | .error _ => (⟨0, 0, 0, e0w⟩, [])
def Co.labR : Except Int (List Ly) → Int
  | .ok _ => 0
  | .error q => q
def AnsPost (y : Vw × List Ly) (lb : Int) (w : World) (e : Ending) (w' : World) : Prop := ∃ ca cc, e = .returned (.tuple #[vV y.1 (.slice ca y.2.length cc), .int .i64 lb]) ∧ LysAt w' (.slice ca y.2.length cc) y.2 ∧ Kept w w'
theorem ans_of {x : Vw} {r : Except Int (List Ly)} {w w' : World} {e : Ending} (h : SendPost x r w e w') : AnsPost (Co.valR x r) (Co.labR r) w e w' := by
  obtain ⟨k, h⟩ := h
  cases r with
  | ok l =>
    obtain ⟨ca, cc, rfl, hr, hf⟩ := h
    exact ⟨ca, cc, rfl, owns_lys hr hf, k⟩
  | error q =>
    obtain rfl := h
    exact ⟨none, 0, rfl, Row.nil, k⟩

set_option maxHeartbeats 4000000 in
theorem sameV_c (x y : Vw) (l m : List Ly) (xa ya : Option Addr) (xc yc : Nat) (w : World) (hl : LysAt w (.slice xa l.length xc) l) (hm : LysAt w (.slice ya m.length yc) m) :
    Calls Tryd.prog 14 #[vV x (.slice xa l.length xc), vV y (.slice ya m.length yc)] w fun e w' => e = .returned (.bool (decide (x = y ∧ l = m))) ∧ Kept w w' := by
  obtain ⟨xt, xn, xb, xs⟩ := x
  obtain ⟨yt, yn, yb, ys⟩ := y
  obtain ⟨W1, hW1⟩ : ∃ W, w.alloc (.cells #[.int .i64 xt, .int .i64 xn, .int .u64 xb, .string xs, .slice xa l.length xc] uT) = W := ⟨_, rfl⟩
  obtain ⟨W2, hW2⟩ : ∃ W, W1.alloc (.cells #[.int .i64 yt, .int .i64 yn, .int .u64 yb, .string ys, .slice ya m.length yc] uT) = W := ⟨_, rfl⟩
  have z1 : W1.heap.size = w.heap.size + 1 := by rw [← hW1]; simp
  have k1 : Kept w W1 := by rw [← hW1]; exact (Kept.refl _).alloc _
  have k2 : Kept W1 W2 := by rw [← hW2]; exact (Kept.refl _).alloc _
  have b1 : Blk W2 w.heap.size uT #[.int .i64 xt, .int .i64 xn, .int .u64 xb, .string xs, .slice xa l.length xc] := (show Blk W1 w.heap.size uT _ by rw [← hW1]; exact Blk.new _ _ _).kept k2
  have b2 : Blk W2 (w.heap.size + 1) uT #[.int .i64 yt, .int .i64 yn, .int .u64 yb, .string ys, .slice ya m.length yc] := by rw [← hW2, ← z1]; exact Blk.new _ _ _
  obtain ⟨⟨p0, p1, p2, p3, p4⟩, _⟩ := blk5u b1
  obtain ⟨⟨q0, q1, q2, q3, q4⟩, _⟩ := blk5u b2
  have HSL := Lib.hid (sameL_c l m _ _ W2 (lys_kept hl (k1.trans k2)) (lys_kept hm (k1.trans k2)))
  have HK := Lib.hid (k1.trans k2)
  have HW1 := Lib.hid hW1
  have HW2 := Lib.hid hW2
  have hno : ∀ P : Prop, ¬ P → ∀ Q R S T : Prop, (P ∧ Q ∧ R ∧ S ↔ (⟨xt, xn, xb, xs⟩ : Vw) = ⟨yt, yn, yb, ys⟩) → True := fun _ _ _ _ _ _ _ => trivial
  have HEQ := Lib.hid (show ((⟨xt, xn, xb, xs⟩ : Vw) = ⟨yt, yn, yb, ys⟩ ∧ l = m) ↔ (xt = yt ∧ xn = yn ∧ xb = yb ∧ xs = ys ∧ l = m) from by simp [and_assoc])
  clear k1 k2 b1 b2 hW1 hW2 hl hm hno
  have fin : ∀ (b : Bool), (b = true ↔ (xt = yt ∧ xn = yn ∧ xb = yb ∧ xs = ys ∧ l = m)) → decide ((⟨xt, xn, xb, xs⟩ : Vw) = ⟨yt, yn, yb, ys⟩ ∧ l = m) = b := fun b hb => by
    rw [Bool.eq_iff_iff, decide_eq_true_iff, HEQ.out, hb]
  obtain ⟨r, hr⟩ : ∃ r, decide ((⟨xt, xn, xb, xs⟩ : Vw) = ⟨yt, yn, yb, ys⟩ ∧ l = m) = r := ⟨_, rfl⟩
  rw [hr]
  rw [hr] at fin
  have HFIN := Lib.hid fin
  clear fin hr
  by_cases h1 : xt = yt
  · subst h1
    by_cases h2 : xn = yn
    · subst h2
      by_cases h3 : xb = yb
      · subst h3
        by_cases h4 : xs = ys
        · subst h4
          go_enter Tryd.func14, Tryd.ntmps14
          go_wp2_with (first | rw [HW1.out] | rw [z1] | rw [HW2.out])
          refine HSL.out.mono ?_
          rintro e w3 ⟨rfl, k3⟩
          go_wp2_with fail
          go_ret
          exact ⟨by rw [HFIN.out (decide (l = m)) (by simp)]; rfl, HK.out.trans k3⟩
        · have h4b : (xs.toList == ys.toList) = false := beq_no h4
          have h4d : decide (xs = ys) = false := decide_eq_false h4
          go_enter Tryd.func14, Tryd.ntmps14
          go_wp2_with (first | rw [HW1.out] | rw [z1] | rw [HW2.out])
          go_ret
          exact ⟨by rw [HFIN.out false (by simp [h4])]; rfl, HK.out⟩
      · have h3b : (xb == yb) = false := by simpa using h3
        go_enter Tryd.func14, Tryd.ntmps14
        go_wp2_with (first | rw [HW1.out] | rw [z1] | rw [HW2.out])
        go_ret
        exact ⟨by rw [HFIN.out false (by simp [h3])]; rfl, HK.out⟩
    · have h2b : (xn == yn) = false := by simpa using h2
      go_enter Tryd.func14, Tryd.ntmps14
      go_wp2_with (first | rw [HW1.out] | rw [z1] | rw [HW2.out])
      go_ret
      exact ⟨by rw [HFIN.out false (by simp [h2])]; rfl, HK.out⟩
  · have h1b : (xt == yt) = false := by simpa using h1
    go_enter Tryd.func14, Tryd.ntmps14
    go_wp2_with (first | rw [HW1.out] | rw [z1] | rw [HW2.out])
    go_ret
    exact ⟨by rw [HFIN.out false (by simp [h1])]; rfl, HK.out⟩

abbrev bC : ByteArray := ⟨#[67]⟩
abbrev bD : ByteArray := ⟨#[68]⟩
abbrev bE : ByteArray := ⟨#[69]⟩
abbrev bint : ByteArray := ⟨#[105, 110, 116]⟩
abbrev bstr : ByteArray := ⟨#[115, 116, 114]⟩
abbrev bq : ByteArray := ⟨#[63]⟩
abbrev bm : ByteArray := ⟨#[109]⟩
abbrev bx : ByteArray := ⟨#[120]⟩
abbrev by_ : ByteArray := ⟨#[121]⟩
/-- The chapter's table. -/
def someT : List Tab.C := [⟨bC, e0w, [], [⟨bm, [⟨⟨#[97]⟩, bD⟩], bD⟩]⟩, ⟨bD, e0w, [⟨bx, bint⟩], []⟩, ⟨bE, e0w, [⟨bx, bint⟩, ⟨by_, bstr⟩], []⟩]
def SomePost (w : World) (e : Ending) (w' : World) : Prop := ∃ a cp, e = .returned (.slice a someT.length cp) ∧ TabAt w' (.slice a someT.length cp) someT ∧ Kept w w'
theorem some_small : Small someT := ⟨by decide, by simp [someT], by simp [someT], by simp [someT]⟩

set_option maxHeartbeats 4000000 in
theorem some_c (w : World) : Calls Tryd.prog 6 #[] w (SomePost w) := by
  obtain ⟨W1, hW1⟩ : ∃ W, w.alloc (.cells #[.string ⟨#[97]⟩, .string bD] 58) = W := ⟨_, rfl⟩
  obtain ⟨W2, hW2⟩ : ∃ W, W1.alloc (.cells #[.string bm, .slice (some ⟨w.heap.size, 0, none⟩) 1 1, .string bD] 61) = W := ⟨_, rfl⟩
  obtain ⟨W3, hW3⟩ : ∃ W, W2.alloc (.cells #[.string bx, .string bint] 58) = W := ⟨_, rfl⟩
  obtain ⟨W4, hW4⟩ : ∃ W, W3.alloc (.cells #[.string bx, .string bint, .string by_, .string bstr] 58) = W := ⟨_, rfl⟩
  obtain ⟨W5, hW5⟩ : ∃ W, W4.alloc (.cells #[.string bC, .string e0w, .slice none 0 0, .slice (some ⟨w.heap.size + 1, 0, none⟩) 1 1, .string bD, .string e0w, .slice (some ⟨w.heap.size + 2, 0, none⟩) 1 1, .slice none 0 0, .string bE, .string e0w, .slice (some ⟨w.heap.size + 3, 0, none⟩) 2 2, .slice none 0 0] 64) = W := ⟨_, rfl⟩
  have z1 : W1.heap.size = w.heap.size + 1 := by rw [← hW1]; simp
  have z2 : W2.heap.size = w.heap.size + 2 := by rw [← hW2]; simp [z1]
  have z3 : W3.heap.size = w.heap.size + 3 := by rw [← hW3]; simp [z2]
  have z4 : W4.heap.size = w.heap.size + 4 := by rw [← hW4]; simp [z3]
  have k1 : Kept w W1 := by rw [← hW1]; exact (Kept.refl _).alloc _
  have k2 : Kept W1 W2 := by rw [← hW2]; exact (Kept.refl _).alloc _
  have k3 : Kept W2 W3 := by rw [← hW3]; exact (Kept.refl _).alloc _
  have k4 : Kept W3 W4 := by rw [← hW4]; exact (Kept.refl _).alloc _
  have k5 : Kept W4 W5 := by rw [← hW5]; exact (Kept.refl _).alloc _
  have b1 := (((((show Blk W1 w.heap.size _ _ by rw [← hW1]; exact Blk.new _ _ _).kept k2).kept k3).kept k4).kept k5)
  have b2 := ((((show Blk W2 (w.heap.size + 1) _ _ by rw [← hW2, ← z1]; exact Blk.new _ _ _).kept k3).kept k4).kept k5)
  have b3 := (((show Blk W3 (w.heap.size + 2) _ _ by rw [← hW3, ← z2]; exact Blk.new _ _ _).kept k4).kept k5)
  have b4 := ((show Blk W4 (w.heap.size + 3) _ _ by rw [← hW4, ← z3]; exact Blk.new _ _ _).kept k5)
  have b5 := (show Blk W5 (w.heap.size + 4) _ _ by rw [← hW5, ← z4]; exact Blk.new _ _ _)
  have HT := Lib.hid (show SomePost w (.returned (.slice (some ⟨w.heap.size + 4, 0, none⟩) 3 3)) W5 from by
    have one : ∀ (l : List Tab.V) (i : Nat) (v : Tab.V), l[i]? = some v → True := fun _ _ _ _ => trivial
    refine ⟨_, 3, rfl, ⟨_, 3, rfl, by decide, by decide, fun i c hc => ?_⟩, (((k1.trans k2).trans k3).trans k4).trans k5⟩
    have h3 : i = 0 ∨ i = 1 ∨ i = 2 := by
      have := (List.getElem?_eq_some_iff.1 hc).1
      simp [someT] at this
      omega
    rcases h3 with rfl | rfl | rfl <;> simp [someT] at hc <;> subst hc <;> refine ⟨_, _, rfl, b5.cell _, b5.cell _, ⟨_, b5.cell _, ?_⟩, ⟨_, b5.cell _, ?_⟩, by decide, by decide⟩
    · exact Row.nil
    · refine ⟨_, 1, rfl, by decide, by decide, fun i m hm => ?_⟩
      obtain ⟨rfl, rfl⟩ : i = 0 ∧ m = ⟨bm, [⟨⟨#[97]⟩, bD⟩], bD⟩ := by
        cases i with
        | zero => simpa using hm.symm
        | succ i => simp at hm
      refine ⟨_, _, rfl, b2.cell _, ⟨_, b2.cell _, ?_⟩, b2.cell _, by decide, by decide⟩
      refine ⟨_, 1, rfl, by decide, by decide, fun i m hm => ?_⟩
      obtain ⟨rfl, rfl⟩ : i = 0 ∧ m = ⟨⟨#[97]⟩, bD⟩ := by
        cases i with
        | zero => simpa using hm.symm
        | succ i => simp at hm
      exact ⟨_, _, rfl, b1.cell _, b1.cell _, by decide, by decide⟩
    · refine ⟨_, 1, rfl, by decide, by decide, fun i m hm => ?_⟩
      obtain ⟨rfl, rfl⟩ : i = 0 ∧ m = ⟨bx, bint⟩ := by
        cases i with
        | zero => simpa using hm.symm
        | succ i => simp at hm
      exact ⟨_, _, rfl, b3.cell _, b3.cell _, by decide, by decide⟩
    · exact Row.nil
    · refine ⟨_, 2, rfl, by decide, by decide, fun i m hm => ?_⟩
      have h2 : (i = 0 ∧ m = ⟨bx, bint⟩) ∨ (i = 1 ∧ m = ⟨by_, bstr⟩) := by
        cases i with
        | zero => left; simpa using hm.symm
        | succ i => cases i with
          | zero => right; simpa using hm.symm
          | succ i => simp at hm
      rcases h2 with ⟨rfl, rfl⟩ | ⟨rfl, rfl⟩
      · exact ⟨_, _, rfl, b4.cell _, b4.cell _, by decide, by decide⟩
      · exact ⟨_, _, rfl, b4.cell _, b4.cell _, by decide, by decide⟩
    · exact Row.nil)
  have HW1 := Lib.hid hW1
  have HW2 := Lib.hid hW2
  have HW3 := Lib.hid hW3
  have HW4 := Lib.hid hW4
  have HW5 := Lib.hid hW5
  clear k1 k2 k3 k4 k5 b1 b2 b3 b4 b5 hW1 hW2 hW3 hW4 hW5
  go_enter Tryd.func6, Tryd.ntmps6
  go_wp2_with (first | rw [HW1.out] | rw [HW2.out] | rw [HW3.out] | rw [HW4.out] | rw [HW5.out] | rw [z1] | rw [z2] | rw [z3] | rw [z4])
  go_ret
  exact HT.out

theorem lay_results {fn : Func} {q : Tmp} (h : fn.results = #[.cell q lT]) (tmps : Array Value) (W : World) {g : Nat} {x0 x1 x2 : Value}
    (hp : tmps.getD q undef = .pointer (some ⟨g, 0, none⟩)) (hg : Blk W g lT #[x0, x1, x2]) : (results fn tmps).run Tryd.prog W = .ok (.agg #[x0, x1, x2]) W :=
  results_cell_row (P := Tryd.prog) h tmps W g lT #[x0, x1, x2] (0, 0) _ hp hg Tryd.underlying35 (by rfl) (by kernel_rfl)
theorem in_c (s : ByteArray) (n : Int) (w : World) : Calls Tryd.prog 10 #[.string s, .int .i64 n] w fun e w' => e = .returned (lyV ⟨false, s, n⟩) ∧ Kept w w' := by
  go_enter Tryd.func10, Tryd.ntmps10
  go_wp2
  exact bodyPost_ret (lay_results (by rfl) _ _ rfl (Blk.new _ _ _)) rfl ⟨rfl, (Kept.refl _).alloc _⟩
theorem out_cc (s : ByteArray) (n : Int) (w : World) : Calls Tryd.prog 17 #[.string s, .int .i64 n] w fun e w' => e = .returned (lyV ⟨true, s, n⟩) ∧ Kept w w' := by
  go_enter Tryd.func17, Tryd.ntmps17
  go_wp2
  exact bodyPost_ret (lay_results (by rfl) _ _ rfl (Blk.new _ _ _)) rfl ⟨rfl, (Kept.refl _).alloc _⟩
abbrev objW (s : ByteArray) : Vw := ⟨7, 1, 0, s⟩
abbrev threeW : Vw := ⟨1, 3, 0, e0w⟩
theorem obj_c (s : ByteArray) (a : Option Addr) (n c : Nat) (w : World) : Calls Tryd.prog 9 #[.string s, .slice a n c] w fun e w' => e = .returned (vV (objW s) (.slice a n c)) ∧ Kept w w' := by
  go_enter Tryd.func9, Tryd.ntmps9
  go_wp2
  exact bodyPost_ret (cof_result (by rfl) _ _ rfl (Blk.new _ _ _)) rfl ⟨rfl, (Kept.refl _).alloc _⟩
theorem three_c (w : World) : Calls Tryd.prog 11 #[] w fun e w' => e = .returned (vV threeW (.slice none 0 0)) ∧ Kept w w' := by
  go_enter Tryd.func11, Tryd.ntmps11
  go_wp2
  exact bodyPost_ret (cof_result (by rfl) _ _ rfl (Blk.new _ _ _)) rfl ⟨rfl, (Kept.refl _).alloc _⟩
end Go.Proofs.YtdceafncncgfbaaDoor
