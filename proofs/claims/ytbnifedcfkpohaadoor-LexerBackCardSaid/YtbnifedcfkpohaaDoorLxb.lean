/- Contract of lexer.Spell. -/
import Derived.Test.YtbnifedcfkpohaaDoorLxa
set_option linter.unusedSimpArgs false
set_option linter.unusedVariables false
set_option maxRecDepth 100000
namespace Go.Proofs.YtbnifedcfkpohaaDoor
open Go.ChangeShapes Go.WideShapes Go.ChangeAt Go.RowKit Go.Shelf
attribute [local go_sem] Oper.semAt_some

namespace Lx
/-- Is a token, but for its place, the only one of its spelling? -/
def sameT (t : T) (k : Int) (x : ByteArray) (n p : Int) : Bool := t.kind == k && (decide (t.text = x) && (t.n == n && t.pos == p))
def oneT (l : List T) (x : T) : Bool := match l with
  | [t] => sameT t x.kind x.text x.n 0
  | _ => false
def isTok (x : T) : Bool := oneT (lex (spl x).data.toList).1 x
theorem oneT_len {l : List T} {x : T} (h : ¬ l.length = 1) : oneT l x = false := by
  match l, h with
  | [], _ => rfl
  | [t], h => exact absurd rfl h
  | _ :: _ :: _, _ => rfl
end Lx

/-- What Spell answers. -/
def spellV (b : Bool) (s : ByteArray) : Value := match b with
  | true => .tuple #[.string s, .int .i64 0]
  | false => .tuple #[.string ⟨#[]⟩, .int .i64 5]

/-- A text made bytes. -/
theorem src_of_text (s : ByteArray) (w : World) (hs : s.size ≤ 1000000) : SrcAt (Lib.bytesWorld w 5 s) (.slice (some ⟨w.heap.size, 0, none⟩) s.data.toList.length (grownCap w s.size 0 5)) s.data.toList := by
  have hl : s.data.toList.length = s.size := by rw [Array.length_toList]; rfl
  refine ⟨_, _, rfl, by rw [hl]; exact grownCap_ge _ _ _ _, grownCap_le_maxLen _ _ _ _ (by unfold maxLen; omega), fun i c hc => ⟨_, _, rfl, ?_⟩⟩
  have hi : i < s.size := by have := (List.getElem?_eq_some_iff.1 hc).1; omega
  have := Lib.bytesWorld_cell w 5 s i hi
  unfold ByteR
  rw [Nat.zero_add, Nat.mul_one, this, List.getD_eq_getElem?_getD, hc]
  rfl

theorem spl_size {x : Lx.T} (hx : TokOk x) : (Lx.spl x).size ≤ 200010 := by
  obtain ⟨h0, h1, h2⟩ := hx
  have hil := Lib.itoa_length_le x.n h0 h1
  unfold Lx.spl
  split
  · show (Lib.itoa x.n).toArray.size ≤ _; simp; omega
  · split
    · show (Lib.itoa x.n ++ [114]).toArray.size ≤ _; simp; omega
    · split
      · have h3 := quP_len x.text.data.toList x.text.size
        unfold quP at h3
        rw [List.take_of_length_le (by rw [Array.length_toList]; exact Nat.le_refl _), List.length_cons] at h3
        show (34 :: x.text.data.toList.flatMap Lx.spelt ++ [34]).toArray.size ≤ _
        rw [List.size_toArray, List.length_append, List.length_cons, List.length_singleton]; omega
      · omega

set_option maxHeartbeats 8000000 in
theorem spell_c (x : Lx.T) (w : World) (hT : Tb w) (hP : Pw w) (hE : Er w) (hx : TokOk x) :
    Calls Tryd.prog 15 #[tV x] w fun e w' => e = .returned (spellV (Lx.isTok x) (Lx.spl x)) ∧ Kept w w' := by
  obtain ⟨W1, hW1⟩ : ∃ W1, w.alloc (.cells (tC x) 24) = W1 := ⟨_, rfl⟩
  have k1 : Kept w W1 := by rw [← hW1]; exact (Kept.refl w).alloc _
  have b1 : Blk W1 w.heap.size 24 (tC x) := by rw [← hW1]; exact Blk.new w _ _
  have HW1 := Lib.hid hW1
  have HK1 := Lib.hid k1
  have HB1 := Lib.hid b1
  obtain ⟨c0, c1, c2, c3⟩ : W1.cell? ⟨w.heap.size, 0, none⟩ = some (.int .i64 x.kind) ∧ W1.cell? ⟨w.heap.size, 1, none⟩ = some (.string x.text) ∧ W1.cell? ⟨w.heap.size, 2, none⟩ = some (.int .i64 x.n) ∧ W1.cell? ⟨w.heap.size, 3, none⟩ = some (.int .i64 x.pos) := ⟨b1.cell 0, b1.cell 1, b1.cell 2, b1.cell 3⟩
  have HSP := Lib.hid (spelling_c x W1 (hT.kept k1) (hP.kept k1) hx)
  have hss := spl_size hx
  have HTT := Lib.hid hT
  have HEE := Lib.hid hE
  obtain ⟨s, hs⟩ : ∃ s, Lx.spl x = s := ⟨_, rfl⟩
  obtain ⟨R, hR⟩ : ∃ R, Lx.isTok x = R := ⟨_, rfl⟩
  have HR : Hid (Lx.oneT (Lx.lex s.data.toList).1 x = R) := Lib.hid (by rw [← hR, ← hs]; rfl)
  rw [hs] at HSP hss
  rw [hs, hR]
  clear hs hR hW1 k1 b1 hT hP hE hx
  go_enter Tryd.func15, Tryd.ntmps15
  go_wp2_with (rw [HW1.out])
  refine HSP.out.mono ?_
  rintro e w2 ⟨rfl, k2⟩
  have hb2 := HB1.out.kept k2
  have f3 := hb2.frozen 3
  have d3 := hb2.cell 3
  simp at d3
  obtain ⟨W3, hW3⟩ : ∃ W3, w2.setCell ⟨w.heap.size, 3, none⟩ (.int .i64 0) = W3 := ⟨_, rfl⟩
  have hb3 : Blk W3 w.heap.size 24 #[.int .i64 x.kind, .string x.text, .int .i64 x.n, .int .i64 0] := by rw [← hW3]; exact hb2.put 3 (.int .i64 0)
  have k3 : Kept w W3 := by rw [← hW3]; exact (HK1.out.trans k2).setCell (by show w.heap.size ≤ w.heap.size; omega) _
  have hcv := Lib.run_convert_string_bytes (P := Tryd.prog) W3 9 35 5 s Tryd.underlying9 Tryd.underlying35 Tryd.underlying5
  have hl : s.data.toList.length = s.size := by rw [Array.length_toList]; rfl
  have hsrc := src_of_text s W3 (by omega)
  obtain ⟨W4, hW4⟩ : ∃ W4, Lib.bytesWorld W3 5 s = W4 := ⟨_, rfl⟩
  have k34 : Kept W3 W4 := by rw [← hW4]; exact Kept.of_below (Lib.bytesWorld_below _ _ _)
  rw [hW4] at hcv hsrc
  have HLX := Lib.hid (lex_c (some ⟨W3.heap.size, 0, none⟩) _ s.data.toList W4 hsrc (HTT.out.kept (k3.trans k34)) (HEE.out.kept (k3.trans k34)))
  rw [hl] at HLX
  have HB4 := Lib.hid (hb3.kept k34)
  have HK4 := Lib.hid (k3.trans k34)
  have HW3 := Lib.hid hW3
  clear hb2 hW3 hb3 k3 hsrc hW4 k34 k2 HSP HB1 HK1 c0 c1 c2 c3 hl
  go_wp2_with (rw [HW3.out])
  refine HLX.out.mono ?_
  rintro e w5 ⟨a', c', rfl, hrow, k5⟩
  have HB5 := Lib.hid (HB4.out.kept k5)
  have HK5 := Lib.hid (HK4.out.trans k5)
  clear k5 HB4 HK4 HLX hcv f3 d3
  obtain ⟨L, hL⟩ : ∃ L, (Lx.lex s.data.toList).1 = L := ⟨_, rfl⟩
  generalize (Lx.lex s.data.toList).2.1 = ev
  generalize (Lx.lex s.data.toList).2.2 = av
  rw [hL] at HR hrow ⊢
  obtain ⟨W6, hW6⟩ : ∃ W6, w5.alloc (.cells #[.int .i64 ev, .int .i64 av] 38) = W6 := ⟨_, rfl⟩
  have k6 : Kept w5 W6 := by rw [← hW6]; exact (Kept.refl w5).alloc _
  have HW6 := Lib.hid hW6
  have hb6 := HB5.out.kept k6
  obtain ⟨e0, e1, e2, e3⟩ : W6.cell? ⟨w.heap.size, 0, none⟩ = some (.int .i64 x.kind) ∧ W6.cell? ⟨w.heap.size, 1, none⟩ = some (.string x.text) ∧ W6.cell? ⟨w.heap.size, 2, none⟩ = some (.int .i64 x.n) ∧ W6.cell? ⟨w.heap.size, 3, none⟩ = some (.int .i64 0) := ⟨hb6.cell 0, hb6.cell 1, hb6.cell 2, hb6.cell 3⟩
  have HK6 := Lib.hid (HK5.out.trans k6)
  by_cases h1 : L.length = 1
  · obtain ⟨t, rfl⟩ : ∃ t, L = [t] := List.length_eq_one_iff.1 h1
    obtain ⟨la, lc, e, _, _, hat⟩ := tks_kept hrow k6
    injection e with ea _ ec
    subst ea ec
    obtain ⟨b, o, rfl, g0, g1, g2, g3⟩ := hat 0 t rfl
    rw [Nat.zero_mul, Nat.add_zero] at g0 g1 g2 g3
    have hne := fun W => neqT t.kind t.n t.pos x.kind x.n 0 t.text x.text W
    have HRR : Hid (Lx.sameT t x.kind x.text x.n 0 = R) := HR
    rw [show (t.kind == x.kind && (decide (t.text = x.text) && (t.n == x.n && t.pos == 0))) = R from HRR.out] at hne
    clear hrow k6 hW6 hb6 hL HR HRR h1 hat HB5 HK5
    have hlen : (([t] : List Lx.T).length : Int) = 1 := rfl
    cases R with
    | true =>
      simp only [Bool.not_true] at hne
      go_wp2_with (rw [HW6.out])
      go_quiet (fail)
      go_wp2_with fail
      exact bodyPost_ret (results_tmp2 rfl _ _ _) rfl ⟨rfl, HK6.out.drewN _⟩
    | false =>
      simp only [Bool.not_false] at hne
      go_wp2_with (rw [HW6.out])
      go_quiet (fail)
      go_wp2_with fail
      exact bodyPost_ret (results_tmp2 rfl _ _ _) rfl ⟨rfl, HK6.out.drewN _⟩
  · obtain rfl : R = false := by rw [← HR.out]; exact Lx.oneT_len h1
    have hlI : ((L.length : Int) != 1) = true := by simp; omega
    have hlI2 : ((L.length : Int) == 1) = false := by simp; omega
    clear hrow k6 hW6 hb6 hL HR h1 HB5 HK5
    go_wp2_with (rw [HW6.out])
    go_quiet (fail)
    go_wp2_with fail
    exact bodyPost_ret (results_tmp2 rfl _ _ _) rfl ⟨rfl, HK6.out.drewN _⟩

end Go.Proofs.YtbnifedcfkpohaaDoor
