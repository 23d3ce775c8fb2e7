/- fits, leave, enter. -/
import Derived.Test.YtdceafncncgfbaaDoorCts
set_option linter.unusedSimpArgs false
set_option linter.unusedVariables false
set_option maxRecDepth 100000
namespace Go.Proofs.YtdceafncncgfbaaDoor
open Go.ChangeShapes Go.WideShapes Go.ChangeAt Go.RowKit Go.Shelf
open Co (dd mb shown)

namespace Co
def fitsB (t : List Tab.C) (x : Vw) (l : List Ly) (b : ByteArray) : Bool :=
  if Wrd.kind b = 2 then true else if Wrd.kind b = 1 then decide (x.tag = Wrd.tag b) else if Wrd.kind b = 3 then decide (x.tag = 6) || (decide (x.tag = 7) && showsB t x.s l b) else false
/-- The chain behind a layer, if the value is an object, and the layer's class one. -/
def wrapL (x : Vw) (l : List Ly) (y : Ly) : List Ly := if x.tag = 7 ∧ Wrd.kind y.cls = 3 then l ++ [y] else l
theorem wrapL_len (x : Vw) (l : List Ly) (y : Ly) : (wrapL x l y).length ≤ l.length + 1 := by unfold wrapL; split <;> simp
end Co
abbrev blameV (q : Int) : List PanicEntry := [{ v := .iface 100 (.int .i64 q), recovered := false }]

section
variable {bs : List Nat} {B : Nat} {x : Vw} {l : List Ly} {a : Option Addr} {cp : Nat} {t : List Tab.C} {came : Int}

theorem Env.tbK {w0 w : World} (E : Env w0 a cp t) (k : Kept w0 w) : Tb w := E.tb.kept k
theorem TrPost.of_kept {ex : List ByteArray} {tv : Value} {w w' : World} (h : TrAt bs ex B x l tv t came w) (k : Kept w w') : TrPost bs ex B x l tv t came w w' := ⟨bs, h.kept k, Moved.kept k⟩

def FitPost (bs : List Nat) (B : Nat) (x : Vw) (l : List Ly) (tv : Value) (t : List Tab.C) (came : Int) (b : ByteArray) (w w' : World) : Prop :=
  (x.tag = 7 ∧ Wrd.kind b = 3 ∧ TrPost bs [b] B x l tv t came w w') ∨ (¬ (x.tag = 7 ∧ Wrd.kind b = 3) ∧ TrPost bs [] B x l tv t came w w')

set_option maxHeartbeats 8000000 in
theorem fits_c (b : ByteArray) (w0 w : World) (h : TrAt bs [] B x l (.slice a t.length cp) t came w) (E : Env w0 a cp t) (h0 : At0 w0 bs w) (hb : b.size ≤ maxLen) (hs : x.s.size ≤ maxLen) (hl : l.length ≤ 100000) :
    Calls Tryd.prog 66 #[.pointer (some ⟨B, 0, none⟩), .string b] w fun e w' => e = .returned (.bool (Co.fitsB t x l b)) ∧ FitPost bs B x l (.slice a t.length cp) t came b w w' := by
  have HK := Lib.hid (kindw_c b w (E.tbK h0.1) hb)
  have HTG := Lib.hid (fun W (k : Kept w W) => tag_c b W (E.tbK (h0.1.trans k)))
  have HSH := Lib.hid (fun W (k : Kept w W) => shows_all b w0 W (h.kept k) E ⟨h0.1.trans k, h0.2⟩ hb hs hl)
  obtain ⟨cv, sv, k, hw⟩ := id h
  have HX0 := Lib.hid (fun W (k : Kept w W) => show W.cell? ⟨B, 0, none⟩ = some (.int .i64 x.tag) from by simpa using (hw.blk.kept k).cell 0)
  have HP := Lib.hid (fun W (k : Kept w W) => TrPost.of_kept (w' := W) h k)
  clear hw h h0 E hb hs hl
  obtain ⟨kd, hkd⟩ : ∃ kd, Wrd.kind b = kd := ⟨_, rfl⟩
  rw [hkd] at HK
  have HKD := Lib.hid hkd
  have HFB := Lib.hid (show Co.fitsB t x l b = if kd = 2 then true else if kd = 1 then decide (x.tag = Wrd.tag b) else if kd = 3 then decide (x.tag = 6) || (decide (x.tag = 7) && Co.showsB t x.s l b) else false by unfold Co.fitsB; rw [hkd])
  have HNO := Lib.hid (fun W (k : Kept w W) (hn : ¬ (x.tag = 7 ∧ kd = 3)) => show FitPost bs B x l (.slice a t.length cp) t came b w W from .inr ⟨by rw [hkd]; exact hn, HP.out _ k⟩)
  clear hkd
  by_cases h2 : kd = 2
  · subst h2
    go_enter Tryd.func66, Tryd.ntmps66
    go_wp2_with fail
    refine HK.out.mono ?_
    rintro e w1 ⟨rfl, k1⟩
    go_wp2_with fail
    go_ret
    exact ⟨by rw [HFB.out]; rfl, HNO.out _ k1 (by omega)⟩
  · have h2b : (kd == 2) = false := by simpa using h2
    by_cases h1 : kd = 1
    · subst h1
      have he : (x.tag == Wrd.tag b) = decide (x.tag = Wrd.tag b) := rfl
      clear h2 h2b
      go_enter Tryd.func66, Tryd.ntmps66
      go_wp2_with fail
      refine HK.out.mono ?_
      rintro e w1 ⟨rfl, k1⟩
      have HK1 := Lib.hid k1
      clear k1
      go_wp2_with fail
      refine (HTG.out _ HK1.out).mono ?_
      rintro e w2 ⟨rfl, k2⟩
      have HK2 := Lib.hid (HK1.out.trans k2)
      have x0 := HX0.out _ HK2.out
      clear k2
      go_wp2_with fail
      go_ret
      exact ⟨by rw [HFB.out]; rfl, HNO.out _ HK2.out (by omega)⟩
    · have h1b : (kd == 1) = false := by simpa using h1
      by_cases h3 : kd = 3
      · subst h3
        clear h2 h2b h1 h1b
        by_cases h6 : x.tag = 6
        · have h6d : decide (x.tag = 6) = true := decide_eq_true h6
          go_enter Tryd.func66, Tryd.ntmps66
          go_wp2_with fail
          refine HK.out.mono ?_
          rintro e w1 ⟨rfl, k1⟩
          have x0 := HX0.out _ k1
          rw [h6] at x0
          have HK1 := Lib.hid k1
          clear k1
          go_wp2_with fail
          go_ret
          exact ⟨by rw [HFB.out, h6d]; rfl, HNO.out _ HK1.out (by omega)⟩
        · have h6b : (x.tag == 6) = false := by simpa using h6
          by_cases h7 : x.tag = 7
          · go_enter Tryd.func66, Tryd.ntmps66
            go_wp2_with fail
            refine HK.out.mono ?_
            rintro e w1 ⟨rfl, k1⟩
            have x0 := HX0.out _ k1
            rw [h7] at x0
            have HK1 := Lib.hid k1
            clear k1
            go_wp2_with fail
            refine (HSH.out _ HK1.out).mono ?_
            rintro e w2 ⟨rfl, bs', ht, hm⟩
            have HR := Lib.hid (show TrPost bs [b] B x l (.slice a t.length cp) t came w w2 from ⟨bs', ht, (Moved.kept HK1.out).trans hm⟩)
            clear ht hm
            go_wp2_with fail
            go_ret
            exact ⟨by rw [HFB.out, decide_eq_true h7, decide_eq_false h6]; rfl, .inl ⟨h7, HKD.out, HR.out⟩⟩
          · have h7b : (x.tag == 7) = false := by simpa using h7
            go_enter Tryd.func66, Tryd.ntmps66
            go_wp2_with fail
            refine HK.out.mono ?_
            rintro e w1 ⟨rfl, k1⟩
            have x0 := HX0.out _ k1
            have HK1 := Lib.hid k1
            clear k1
            go_wp2_with fail
            go_ret
            exact ⟨by rw [HFB.out, decide_eq_false h7, decide_eq_false h6]; rfl, HNO.out _ HK1.out (by omega)⟩
      · have h3b : (kd == 3) = false := by simpa using h3
        go_enter Tryd.func66, Tryd.ntmps66
        go_wp2_with fail
        refine HK.out.mono ?_
        rintro e w1 ⟨rfl, k1⟩
        go_wp2_with fail
        go_ret
        exact ⟨by rw [HFB.out, if_neg h2, if_neg h1, if_neg h3]; rfl, HNO.out _ k1 (by omega)⟩

set_option maxHeartbeats 4000000 in
theorem leave_c (b : ByteArray) (lab : Int) (w0 w : World) (h : TrAt bs [] B x l (.slice a t.length cp) t came w) (E : Env w0 a cp t) (h0 : At0 w0 bs w) (hb : b.size ≤ maxLen) (hl : l.length ≤ 100000) :
    Calls Tryd.prog 38 #[.pointer (some ⟨B, 0, none⟩), .string b, .int .i64 lab] w fun e w' => e = .returned (.tuple #[]) ∧ TrPost bs [] B x (Co.wrapL x l ⟨false, b, lab⟩) (.slice a t.length cp) t came w w' := by
  unfold Co.wrapL
  by_cases hy : x.tag = 7 ∧ Wrd.kind b = 3
  · rw [if_pos hy]
    have HW := Lib.hid (wrap_yes (ex := []) ⟨false, b, lab⟩ [] w h (E.tbK h0.1) hb hy.1 hy.2 (fun _ h => by simp at h) (by simp) hl)
    clear h h0 E hb hy hl
    go_enter Tryd.func38, Tryd.ntmps38
    go_wp2_with fail
    refine HW.out.mono ?_
    rintro e w1 ⟨rfl, hp⟩
    go_wp2_with fail
    go_end0
    exact ⟨rfl, hp⟩
  · rw [if_neg hy]
    have HW := Lib.hid (wrap_no (ex := []) ⟨false, b, lab⟩ w h (E.tbK h0.1) hb hy)
    have HP := Lib.hid (fun W (k : Kept w W) => TrPost.of_kept (w' := W) h k)
    clear h h0 E hb hy hl
    go_enter Tryd.func38, Tryd.ntmps38
    go_wp2_with fail
    refine HW.out.mono ?_
    rintro e w1 ⟨rfl, hp⟩
    go_wp2_with fail
    go_end0
    exact ⟨rfl, HP.out _ hp⟩

def EntPost (bs : List Nat) (B : Nat) (x : Vw) (l : List Ly) (tv : Value) (t : List Tab.C) (came : Int) (b : ByteArray) (lab : Int) (w : World) (e : Ending) (w' : World) : Prop :=
  (Co.fitsB t x l b = true ∧ e = .returned (.tuple #[]) ∧ TrPost bs [] B x (Co.wrapL x l ⟨true, b, lab⟩) tv t came w w') ∨ (Co.fitsB t x l b = false ∧ e = .panicked (blameV lab) ∧ ∃ bs', Moved bs bs' w w')

set_option maxHeartbeats 4000000 in
theorem enter_c (b : ByteArray) (lab : Int) (w0 w : World) (h : TrAt bs [] B x l (.slice a t.length cp) t came w) (E : Env w0 a cp t) (h0 : At0 w0 bs w) (hb : b.size ≤ maxLen) (hs : x.s.size ≤ maxLen) (hl : l.length ≤ 100000) :
    Calls Tryd.prog 49 #[.pointer (some ⟨B, 0, none⟩), .string b, .int .i64 lab] w (EntPost bs B x l (.slice a t.length cp) t came b lab w) := by
  have HF := Lib.hid (fits_c b w0 w h E h0 hb hs hl)
  have HY := Lib.hid (fun bs' ex W (ht : TrAt bs' ex B x l (.slice a t.length cp) t came W) (hk : Kept w0 W) h7 h3 (he : ∀ c ∈ ex, c = b ∨ c ∈ ([] : List ByteArray)) (hle : ex.length ≤ 2) => wrap_yes ⟨true, b, lab⟩ [] W ht (E.tbK hk) hb h7 h3 he (by simpa using hle) hl)
  have HN := Lib.hid (fun bs' ex W (ht : TrAt bs' ex B x l (.slice a t.length cp) t came W) (hk : Kept w0 W) hno => wrap_no (y := ⟨true, b, lab⟩) W ht (E.tbK hk) hb hno)
  have H0 := Lib.hid h0
  clear h h0 E hb hs hl
  cases hf : Co.fitsB t x l b with
  | false =>
    rw [hf] at HF
    have HFB := Lib.hid hf
    clear hf
    go_enter Tryd.func49, Tryd.ntmps49
    go_wp2_with fail
    refine HF.out.mono ?_
    rintro e w1 ⟨rfl, hp⟩
    have HM := Lib.hid (show ∃ bs', Moved bs bs' w w1 from by
      rcases hp with ⟨_, _, bs', _, hm⟩ | ⟨_, bs', _, hm⟩ <;> exact ⟨bs', hm⟩)
    clear hp
    go_wp2_with fail
    exact ⟨rfl, .inr ⟨HFB.out, rfl, HM.out⟩⟩
  | true =>
    rw [hf] at HF
    have HFB := Lib.hid hf
    clear hf
    go_enter Tryd.func49, Tryd.ntmps49
    go_wp2_with fail
    refine HF.out.mono ?_
    rintro e w1 ⟨rfl, hp⟩
    rcases hp with ⟨h7, h3, bs', ht, hm⟩ | ⟨hno, bs', ht, hm⟩
    · have HC := Lib.hid (HY.out bs' [b] w1 ht (H0.out.moved hm).1 h7 h3 (fun c h => by simp at h; exact .inl h) (by simp))
      have HM := Lib.hid hm
      have HWL := Lib.hid (show Co.wrapL x l ⟨true, b, lab⟩ = l ++ [⟨true, b, lab⟩] from if_pos ⟨h7, h3⟩)
      clear ht hm h7 h3
      go_wp2_with fail
      refine HC.out.mono ?_
      rintro e w2 ⟨rfl, bs2, ht2, hm2⟩
      go_wp2_with fail
      go_end0
      exact .inl ⟨HFB.out, rfl, bs2, by rw [HWL.out]; exact ht2, HM.out.trans hm2⟩
    · have HC := Lib.hid (HN.out bs' [] w1 ht (H0.out.moved hm).1 hno)
      have HM := Lib.hid (show ∀ W, Kept w1 W → TrPost bs [] B x l (.slice a t.length cp) t came w W from fun W k => ⟨bs', ht.kept k, hm.trans (Moved.kept k)⟩)
      have HWL := Lib.hid (show Co.wrapL x l ⟨true, b, lab⟩ = l from if_neg hno)
      clear ht hm hno
      go_wp2_with fail
      refine HC.out.mono ?_
      rintro e w2 ⟨rfl, k2⟩
      go_wp2_with fail
      go_end0
      exact .inl ⟨HFB.out, rfl, by rw [HWL.out]; exact HM.out _ k2⟩
end
end Go.Proofs.YtdceafncncgfbaaDoor
