/- Contracts of package lexer's spelling and Spell. -/
import Derived.Test.YtfkmnpgpfmkjaaaGreatDoory30
import Derived.Lib.ItoaLen
import Derived.Lib.ConvBytes
import Derived.Laws.StructEq
set_option linter.unusedSimpArgs false
set_option linter.unusedVariables false
set_option maxRecDepth 100000
namespace Go.Proofs.YtfkmnpgpfmkjaaaGreatDoor
open Go.ChangeShapes Go.WideShapes Go.ChangeAt Go.RowKit Go.Shelf
attribute [local go_sem] Oper.semAt_some

/-- A token as a value. -/
abbrev tV (x : Lx.T) : Value := tagg x.kind x.text x.n x.pos
abbrev tC (x : Lx.T) : Array Value := #[.int .i64 x.kind, .string x.text, .int .i64 x.n, .int .i64 x.pos]
/-- What a token holds fits. -/
def TokOk (x : Lx.T) : Prop := -9223372036854775808 ≤ x.n ∧ x.n ≤ 9223372036854775807 ∧ x.text.size ≤ 100000

theorem cat_r (l : List UInt8) : (⟨l.toArray⟩ : ByteArray) ++ ⟨#[114]⟩ = ⟨(l ++ [114]).toArray⟩ := by
  apply ByteArray.ext
  apply Array.toList_inj.1
  simp

set_option maxHeartbeats 4000000 in
theorem spelling_c (x : Lx.T) (w : World) (hT : Tb w) (hP : Pw w) (hx : TokOk x) :
    Calls Tryz.prog 45 #[tV x] w fun e w' => e = .returned (.string (Lx.spl x)) ∧ Kept w w' := by
  obtain ⟨hn0, hn1, hsz⟩ := hx
  obtain ⟨W1, hW1⟩ : ∃ W1, w.alloc (.cells (tC x) 48) = W1 := ⟨_, rfl⟩
  have k1 : Kept w W1 := by rw [← hW1]; exact (Kept.refl w).alloc _
  have b1 : Blk W1 w.heap.size 48 (tC x) := by rw [← hW1]; exact Blk.new w _ _
  have HW1 := Lib.hid hW1
  have HK1 := Lib.hid k1
  obtain ⟨c0, c1, c2, c3⟩ : W1.cell? ⟨w.heap.size, 0, none⟩ = some (.int .i64 x.kind) ∧ W1.cell? ⟨w.heap.size, 1, none⟩ = some (.string x.text) ∧ W1.cell? ⟨w.heap.size, 2, none⟩ = some (.int .i64 x.n) ∧ W1.cell? ⟨w.heap.size, 3, none⟩ = some (.int .i64 x.pos) := ⟨b1.cell 0, b1.cell 1, b1.cell 2, b1.cell 3⟩
  have HI := Lib.hid (itoa_c x.n hn0 hn1 W1 (hP.kept k1))
  have HQ := Lib.hid (quoted_c x.text W1 (hT.kept k1) hsz)
  have hil := Lib.itoa_length_le x.n hn0 hn1
  obtain ⟨R, hR⟩ : ∃ R, Lx.spl x = R := ⟨_, rfl⟩
  rw [hR]
  have HR := Lib.hid hR
  clear hW1 k1 b1 hT hP hn0 hn1 hsz hR
  have HSP : Hid (Lx.spl x = if x.kind = 4 then ⟨(Lib.itoa x.n).toArray⟩ else if x.kind = 5 then ⟨(Lib.itoa x.n ++ [114]).toArray⟩ else if x.kind = 6 then ⟨(34 :: x.text.data.toList.flatMap Lx.spelt ++ [34]).toArray⟩ else x.text) := Lib.hid rfl
  obtain ⟨it, hit⟩ : ∃ it : ByteArray, ⟨(Lib.itoa x.n).toArray⟩ = it := ⟨_, rfl⟩
  have hits : it.size ≤ 21 := by rw [← hit]; show (Lib.itoa x.n).toArray.size ≤ 21; simpa using hil
  rw [hit] at HI HSP
  have HIT := Lib.hid hit
  clear hit hil
  by_cases h4 : x.kind = 4
  · obtain rfl : it = R := by rw [← HR.out, HSP.out, if_pos h4]
    have e4 : (x.kind == 4) = true := by simp [h4]
    clear h4
    go_enter Tryz.func45, Tryz.ntmps45
    go_wp2_with (rw [HW1.out])
    refine HI.out.mono ?_
    rintro e w2 ⟨rfl, k2⟩
    go_wp2_with fail
    go_ret
    exact ⟨rfl, HK1.out.trans k2⟩
  · have e4 : (x.kind == 4) = false := by simp [h4]
    by_cases h5 : x.kind = 5
    · obtain rfl : it ++ ⟨#[114]⟩ = R := by rw [← HR.out, HSP.out, if_neg h4, if_pos h5, ← HIT.out]; exact cat_r _
      have e5 : (x.kind == 5) = true := by simp [h5]
      clear h4 h5
      have hr1 : (⟨#[114]⟩ : ByteArray).size = 1 := rfl
      go_enter Tryz.func45, Tryz.ntmps45
      go_wp2_with (rw [HW1.out])
      refine HI.out.mono ?_
      rintro e w2 ⟨rfl, k2⟩
      go_wp2_with fail
      go_ret
      exact ⟨rfl, HK1.out.trans k2⟩
    · have e5 : (x.kind == 5) = false := by simp [h5]
      by_cases h6 : x.kind = 6
      · rw [if_neg h4, if_neg h5, if_pos h6] at HSP
        rw [HR.out] at HSP
        rw [← HSP.out] at HQ
        have e6 : (x.kind == 6) = true := by simp [h6]
        clear h4 h5 h6
        go_enter Tryz.func45, Tryz.ntmps45
        go_wp2_with (rw [HW1.out])
        refine HQ.out.mono ?_
        rintro e w2 ⟨rfl, k2⟩
        go_wp2_with fail
        go_ret
        exact ⟨rfl, HK1.out.trans k2⟩
      · have e6 : (x.kind == 6) = false := by simp [h6]
        obtain rfl : x.text = R := by rw [← HR.out, HSP.out, if_neg h4, if_neg h5, if_neg h6]
        clear h4 h5 h6
        go_enter Tryz.func45, Tryz.ntmps45
        go_wp2_with (rw [HW1.out])
        go_ret
        exact ⟨rfl, HK1.out⟩

/-- Two tokens compared. -/
theorem neqT (k n p k' n' p' : Int) (s t : ByteArray) (w : World) : (binOp .neq 48 (tagg k s n p) (tagg k' t n' p')).run Tryz.prog w = .ok (.bool (!(k == k' && (decide (s = t) && (n == n' && p == p'))))) w := by
  have hp : Tryz.prog.stoodInHeld 48 = false := by kernel_rfl
  have h0 : (part 3 #[.int .i64 k, .string s, .int .i64 n, .int .i64 p] 0).run Tryz.prog w = .ok (.int .i64 k) w := by kernel_rfl
  have h1 : (part 9 #[.int .i64 k, .string s, .int .i64 n, .int .i64 p] 1).run Tryz.prog w = .ok (.string s) w := by kernel_rfl
  have h2 : (part 3 #[.int .i64 k, .string s, .int .i64 n, .int .i64 p] 2).run Tryz.prog w = .ok (.int .i64 n) w := by kernel_rfl
  have h3 : (part 3 #[.int .i64 k, .string s, .int .i64 n, .int .i64 p] 3).run Tryz.prog w = .ok (.int .i64 p) w := by kernel_rfl
  have g0 : (part 3 #[.int .i64 k', .string t, .int .i64 n', .int .i64 p'] 0).run Tryz.prog w = .ok (.int .i64 k') w := by kernel_rfl
  have g1 : (part 9 #[.int .i64 k', .string t, .int .i64 n', .int .i64 p'] 1).run Tryz.prog w = .ok (.string t) w := by kernel_rfl
  have g2 : (part 3 #[.int .i64 k', .string t, .int .i64 n', .int .i64 p'] 2).run Tryz.prog w = .ok (.int .i64 n') w := by kernel_rfl
  have g3 : (part 3 #[.int .i64 k', .string t, .int .i64 n', .int .i64 p'] 3).run Tryz.prog w = .ok (.int .i64 p') w := by kernel_rfl
  have e1 := fun d => run_equalIn_string (P := Tryz.prog) w d 9 s t Tryz.underlying9
  have e2 := fun d (m n : Int) => run_equalIn_int (P := Tryz.prog) w d 3 .i64 .i64 m n Tryz.underlying3
  have hs : (s.toList == t.toList) = decide (s = t) := by
    by_cases e : s = t
    · subst e; simp
    · rw [decide_eq_false e]
      refine beq_eq_false_iff_ne.2 (fun h => e ?_)
      rw [ByteArray.toList_eq, ByteArray.toList_eq] at h
      exact ByteArray.ext (Array.toList_inj.1 h)
  have hf : Tryz.prog.fieldsOf 48 = #[{ name := "Kind", type := 3, offset := 0, embedded := false, tag := "", pkgPath := "", byteOffset := 0 }, { name := "Text", type := 9, offset := 1, embedded := false, tag := "", pkgPath := "", byteOffset := 8 }, { name := "N", type := 3, offset := 2, embedded := false, tag := "", pkgPath := "", byteOffset := 24 }, { name := "At", type := 3, offset := 3, embedded := false, tag := "", pkgPath := "", byteOffset := 32 }] := by kernel_rfl
  rw [run_neq_struct, show (10000 : Nat) = 9998 + 1 + 1 from rfl, run_equalIn_struct w _ _ _ _ (by rw [hf]; exact Tryz.underlying48) hp, hf]
  simp only [Op.eqFields, Sem.run_bind, Sem.run_ite, h0, h1, h2, h3, g0, g1, g2, g3, e1, e2, Result.andThen_ok, hs]
  cases ha : (k == k') <;> cases h2 : decide (s = t) <;> cases h3 : (n == n') <;> cases h4 : (p == p') <;> simp [Op.eqFields, Result.andThen]

end Go.Proofs.YtfkmnpgpfmkjaaaGreatDoor
namespace Go.Proofs.YtfkmnpgpfmkjaaaGreatDoor
open Go.ChangeShapes Go.WideShapes Go.ChangeAt Go.RowKit Go.Shelf
attribute [local go_sem] Oper.semAt_some

namespace Lx
/-- Is a token, but for its place, the only one of its spelling? -/
def sameT (t : T) (k : Int) (x : ByteArray) (n p : Int) : Bool := t.kind == k && (decide (t.text = x) && (t.n == n && t.pos == p))
def oneT (l : List T) (x : T) : Bool := match l with
  | [t] => sameT t x.kind x.text x.n 0
  | _ => false
def isTok (x : T) : Bool := oneT (lex (spl x).data.toList).1 x
theorem oneT_len {l : List T} {x : T} (h : ¬ l.length = 1) : oneT l x = false := by
  match l, h with
  | [], _ => rfl
  | [t], h => exact absurd rfl h
  | _ :: _ :: _, _ => rfl
end Lx

/-- What Spell answers. -/
def spellV (b : Bool) (s : ByteArray) : Value := match b with
  | true => .tuple #[.string s, .int .i64 0]
  | false => .tuple #[.string ⟨#[]⟩, .int .i64 5]

/-- A text made bytes. -/
theorem src_of_text (s : ByteArray) (w : World) (hs : s.size ≤ 1000000) : SrcAt (Lib.bytesWorld w 5 s) (.slice (some ⟨w.heap.size, 0, none⟩) s.data.toList.length (grownCap w s.size 0 5)) s.data.toList := by
  have hl : s.data.toList.length = s.size := by rw [Array.length_toList]; rfl
  refine ⟨_, _, rfl, by rw [hl]; exact grownCap_ge _ _ _ _, grownCap_le_maxLen _ _ _ _ (by unfold maxLen; omega), fun i c hc => ⟨_, _, rfl, ?_⟩⟩
  have hi : i < s.size := by have := (List.getElem?_eq_some_iff.1 hc).1; omega
  have := Lib.bytesWorld_cell w 5 s i hi
  unfold ByteR
  rw [Nat.zero_add, Nat.mul_one, this, List.getD_eq_getElem?_getD, hc]
  rfl

theorem spl_size {x : Lx.T} (hx : TokOk x) : (Lx.spl x).size ≤ 200010 := by
  obtain ⟨h0, h1, h2⟩ := hx
  have hil := Lib.itoa_length_le x.n h0 h1
  unfold Lx.spl
  split
  · show (Lib.itoa x.n).toArray.size ≤ _; simp; omega
  · split
    · show (Lib.itoa x.n ++ [114]).toArray.size ≤ _; simp; omega
    · split
      · have h3 := quP_len x.text.data.toList x.text.size
        unfold quP at h3
        rw [List.take_of_length_le (by rw [Array.length_toList]; exact Nat.le_refl _), List.length_cons] at h3
        show (34 :: x.text.data.toList.flatMap Lx.spelt ++ [34]).toArray.size ≤ _
        rw [List.size_toArray, List.length_append, List.length_cons, List.length_singleton]; omega
      · omega

set_option maxHeartbeats 8000000 in
theorem spell_c (x : Lx.T) (w : World) (hT : Tb w) (hP : Pw w) (hE : Er w) (hx : TokOk x) :
    Calls Tryz.prog 27 #[tV x] w fun e w' => e = .returned (spellV (Lx.isTok x) (Lx.spl x)) ∧ Kept w w' := by
  obtain ⟨W1, hW1⟩ : ∃ W1, w.alloc (.cells (tC x) 48) = W1 := ⟨_, rfl⟩
  have k1 : Kept w W1 := by rw [← hW1]; exact (Kept.refl w).alloc _
  have b1 : Blk W1 w.heap.size 48 (tC x) := by rw [← hW1]; exact Blk.new w _ _
  have HW1 := Lib.hid hW1
  have HK1 := Lib.hid k1
  have HB1 := Lib.hid b1
  obtain ⟨c0, c1, c2, c3⟩ : W1.cell? ⟨w.heap.size, 0, none⟩ = some (.int .i64 x.kind) ∧ W1.cell? ⟨w.heap.size, 1, none⟩ = some (.string x.text) ∧ W1.cell? ⟨w.heap.size, 2, none⟩ = some (.int .i64 x.n) ∧ W1.cell? ⟨w.heap.size, 3, none⟩ = some (.int .i64 x.pos) := ⟨b1.cell 0, b1.cell 1, b1.cell 2, b1.cell 3⟩
  have HSP := Lib.hid (spelling_c x W1 (hT.kept k1) (hP.kept k1) hx)
  have hss := spl_size hx
  have HTT := Lib.hid hT
  have HEE := Lib.hid hE
  obtain ⟨s, hs⟩ : ∃ s, Lx.spl x = s := ⟨_, rfl⟩
  obtain ⟨R, hR⟩ : ∃ R, Lx.isTok x = R := ⟨_, rfl⟩
  have HR : Hid (Lx.oneT (Lx.lex s.data.toList).1 x = R) := Lib.hid (by rw [← hR, ← hs]; rfl)
  rw [hs] at HSP hss
  rw [hs, hR]
  clear hs hR hW1 k1 b1 hT hP hE hx
  go_enter Tryz.func27, Tryz.ntmps27
  go_wp2_with (rw [HW1.out])
  refine HSP.out.mono ?_
  rintro e w2 ⟨rfl, k2⟩
  have hb2 := HB1.out.kept k2
  have f3 := hb2.frozen 3
  have d3 := hb2.cell 3
  simp at d3
  obtain ⟨W3, hW3⟩ : ∃ W3, w2.setCell ⟨w.heap.size, 3, none⟩ (.int .i64 0) = W3 := ⟨_, rfl⟩
  have hb3 : Blk W3 w.heap.size 48 #[.int .i64 x.kind, .string x.text, .int .i64 x.n, .int .i64 0] := by rw [← hW3]; exact hb2.put 3 (.int .i64 0)
  have k3 : Kept w W3 := by rw [← hW3]; exact (HK1.out.trans k2).setCell (by show w.heap.size ≤ w.heap.size; omega) _
  have hcv := Lib.run_convert_string_bytes (P := Tryz.prog) W3 9 33 5 s Tryz.underlying9 Tryz.underlying33 Tryz.underlying5
  have hl : s.data.toList.length = s.size := by rw [Array.length_toList]; rfl
  have hsrc := src_of_text s W3 (by omega)
  obtain ⟨W4, hW4⟩ : ∃ W4, Lib.bytesWorld W3 5 s = W4 := ⟨_, rfl⟩
  have k34 : Kept W3 W4 := by rw [← hW4]; exact Kept.of_below (Lib.bytesWorld_below _ _ _)
  rw [hW4] at hcv hsrc
  have HLX := Lib.hid (lex_c (some ⟨W3.heap.size, 0, none⟩) _ s.data.toList W4 hsrc (HTT.out.kept (k3.trans k34)) (HEE.out.kept (k3.trans k34)))
  rw [hl] at HLX
  have HB4 := Lib.hid (hb3.kept k34)
  have HK4 := Lib.hid (k3.trans k34)
  have HW3 := Lib.hid hW3
  clear hb2 hW3 hb3 k3 hsrc hW4 k34 k2 HSP HB1 HK1 c0 c1 c2 c3 hl
  go_wp2_with (rw [HW3.out])
  refine HLX.out.mono ?_
  rintro e w5 ⟨a', c', rfl, hrow, k5⟩
  have HB5 := Lib.hid (HB4.out.kept k5)
  have HK5 := Lib.hid (HK4.out.trans k5)
  clear k5 HB4 HK4 HLX hcv f3 d3
  obtain ⟨L, hL⟩ : ∃ L, (Lx.lex s.data.toList).1 = L := ⟨_, rfl⟩
  generalize (Lx.lex s.data.toList).2.1 = ev
  generalize (Lx.lex s.data.toList).2.2 = av
  rw [hL] at HR hrow ⊢
  obtain ⟨W6, hW6⟩ : ∃ W6, w5.alloc (.cells #[.int .i64 ev, .int .i64 av] 36) = W6 := ⟨_, rfl⟩
  have k6 : Kept w5 W6 := by rw [← hW6]; exact (Kept.refl w5).alloc _
  have HW6 := Lib.hid hW6
  have hb6 := HB5.out.kept k6
  obtain ⟨e0, e1, e2, e3⟩ : W6.cell? ⟨w.heap.size, 0, none⟩ = some (.int .i64 x.kind) ∧ W6.cell? ⟨w.heap.size, 1, none⟩ = some (.string x.text) ∧ W6.cell? ⟨w.heap.size, 2, none⟩ = some (.int .i64 x.n) ∧ W6.cell? ⟨w.heap.size, 3, none⟩ = some (.int .i64 0) := ⟨hb6.cell 0, hb6.cell 1, hb6.cell 2, hb6.cell 3⟩
  have HK6 := Lib.hid (HK5.out.trans k6)
  by_cases h1 : L.length = 1
  · obtain ⟨t, rfl⟩ : ∃ t, L = [t] := List.length_eq_one_iff.1 h1
    obtain ⟨la, lc, e, _, _, hat⟩ := tks_kept hrow k6
    injection e with ea _ ec
    subst ea ec
    obtain ⟨b, o, rfl, g0, g1, g2, g3⟩ := hat 0 t rfl
    rw [Nat.zero_mul, Nat.add_zero] at g0 g1 g2 g3
    have hne := fun W => neqT t.kind t.n t.pos x.kind x.n 0 t.text x.text W
    have HRR : Hid (Lx.sameT t x.kind x.text x.n 0 = R) := HR
    rw [show (t.kind == x.kind && (decide (t.text = x.text) && (t.n == x.n && t.pos == 0))) = R from HRR.out] at hne
    clear hrow k6 hW6 hb6 hL HR HRR h1 hat HB5 HK5
    have hlen : (([t] : List Lx.T).length : Int) = 1 := rfl
    cases R with
    | true =>
      simp only [Bool.not_true] at hne
      go_wp2_with (rw [HW6.out])
      go_quiet (fail)
      go_wp2_with fail
      exact bodyPost_ret (results_tmp2 rfl _ _ _) rfl ⟨rfl, HK6.out.drewN _⟩
    | false =>
      simp only [Bool.not_false] at hne
      go_wp2_with (rw [HW6.out])
      go_quiet (fail)
      go_wp2_with fail
      exact bodyPost_ret (results_tmp2 rfl _ _ _) rfl ⟨rfl, HK6.out.drewN _⟩
  · obtain rfl : R = false := by rw [← HR.out]; exact Lx.oneT_len h1
    have hlI : ((L.length : Int) != 1) = true := by simp; omega
    have hlI2 : ((L.length : Int) == 1) = false := by simp; omega
    clear hrow k6 hW6 hb6 hL HR h1 HB5 HK5
    go_wp2_with (rw [HW6.out])
    go_quiet (fail)
    go_wp2_with fail
    exact bodyPost_ret (results_tmp2 rfl _ _ _) rfl ⟨rfl, HK6.out.drewN _⟩

end Go.Proofs.YtfkmnpgpfmkjaaaGreatDoor
namespace Go.Proofs.YtfkmnpgpfmkjaaaGreatDoor
open Go.ChangeShapes Go.WideShapes Go.ChangeAt Go.RowKit Go.Shelf
attribute [local go_sem] Oper.semAt_some

namespace Lx
/-- Tokens as a source, with one blank between two. -/
def joinB : List T → List UInt8
  | [] => []
  | x :: r => (spl x).data.toList ++ r.flatMap fun y => 32 :: (spl y).data.toList
theorem joinB_snoc (l : List T) (x : T) : joinB (l ++ [x]) = joinB l ++ (if l.length = 0 then [] else [32]) ++ (spl x).data.toList := by
  cases l with
  | nil => simp [joinB]
  | cons y r => simp [joinB]
theorem joinB_le (l m : List T) : (joinB l).length ≤ (joinB (l ++ m)).length := by
  cases l with
  | nil => exact Nat.zero_le _
  | cons y r => simp only [joinB, List.cons_append, List.flatMap_append, List.length_append]; omega
end Lx

set_option maxHeartbeats 8000000 in
theorem join_c (l : List Lx.T) (a : Option Addr) (c : Nat) (w : World) (h : TksAt w (.slice a l.length c) l) (hT : Tb w) (hP : Pw w) (hE : Er w) (hx : ∀ x ∈ l, TokOk x) (hsum : (Lx.joinB l).length ≤ 900000) :
    Calls Tryz.prog 19 #[.slice a l.length c] w fun e w' => e = .returned (spellV (l.all Lx.isTok) ⟨(Lx.joinB l).toArray⟩) ∧ Kept w w' := by
  have hcap : l.length ≤ c ∧ c ≤ maxLen := by
    obtain ⟨a', c', e, h1, h2, h3⟩ := h
    injection e with e1 e2 e3
    subst e1 e3
    exact ⟨h1, h2⟩
  unfold maxLen at hcap
  have HAT : Hid (∀ i (hi : i < l.length) W, Kept w W → ∃ b o, a = some ⟨b, o, none⟩ ∧ TokR W b (o + i * 4) l[i]) := Lib.hid (by
    intro i hi W k
    obtain ⟨a', c', e, h1, h2, h3⟩ := tks_kept h k
    injection e with e1 e2 e3
    subst e1 e3
    exact h3 i l[i] (List.getElem?_eq_getElem hi))
  obtain ⟨W1, hW1⟩ : ∃ W1, w.alloc (.cells #[.pointer none, .slice none 0 0] 65) = W1 := ⟨_, rfl⟩
  have hs1 : w.heap.size ≤ W1.heap.size := by rw [← hW1]; simp
  have HB1 : Hid (Bld w.heap.size w.heap.size [] W1) := Lib.hid (.inl ⟨Nat.le_refl _, .slice none 0 0, by rw [← hW1]; exact heap_alloc_new w _, World.ownsRow_nil _ _ _ _, by simp [Value.ownBlock]⟩)
  have HK1 : Hid (Kept w W1) := Lib.hid (by rw [← hW1]; exact (Kept.refl w).alloc _)
  have HW1 := Lib.hid hW1
  have HT := Lib.hid hT
  have HP := Lib.hid hP
  have HE := Lib.hid hE
  have HX := Lib.hid hx
  have HSUM := Lib.hid hsum
  obtain ⟨R, hR⟩ : ∃ R, l.all Lx.isTok = R := ⟨_, rfl⟩
  rw [hR]
  have HR := Lib.hid hR
  obtain ⟨J, hJ⟩ : ∃ J : ByteArray, ⟨(Lx.joinB l).toArray⟩ = J := ⟨_, rfl⟩
  rw [hJ]
  have HJ := Lib.hid hJ
  clear h hW1 hT hP hE hx hsum hR hJ
  go_enter Tryz.func19, Tryz.ntmps19
  go_wp2_with (rw [HW1.out])
  go_loopw [11] (fun i wr => ∃ k : Nat, k ≤ l.length ∧ i = .int .i64 k ∧ Hid (Bld w.heap.size w.heap.size (Lx.joinB (l.take k)) wr) ∧ Hid (Kept w wr) ∧ Hid (∀ x ∈ l.take k, Lx.isTok x = true) ∧ w.heap.size ≤ wr.heap.size) (fun i wr => l.length - (intOf i).toNat)
  case atStart => exact ⟨0, Nat.zero_le _, rfl, HB1, HK1, Lib.hid (by simp), hs1⟩
  case round =>
    clear HB1 HK1 hs1 HW1
    obtain ⟨k, hk, rfl, HB, HK, HA, hz⟩ := hrel
    by_cases hlt : k < l.length
    · have hltI : (k : Int) < (l.length : Int) := by omega
      obtain ⟨b, o, rfl, g0, g1, g2, g3⟩ := HAT.out k hlt wr HK.out
      have HTK := Lib.hid (show l.take (k + 1) = l.take k ++ [l[k]] from List.take_succ_eq_append_getElem hlt)
      have HXK := Lib.hid (HX.out l[k] (List.getElem_mem hlt))
      have HMEM := Lib.hid (show l[k] ∈ l from List.getElem_mem hlt)
      generalize l[k] = x at *
      have hkl : (l.take k).length = k := by rw [List.length_take]; omega
      have HSN := Lib.hid (show Lx.joinB (l.take (k + 1)) = Lx.joinB (l.take k) ++ (if k = 0 then [] else [32]) ++ (Lx.spl x).data.toList by rw [HTK.out, Lx.joinB_snoc, hkl])
      have HLE := Lib.hid (show (Lx.joinB (l.take (k + 1))).length ≤ 900000 from Nat.le_trans (by have := Lx.joinB_le (l.take (k + 1)) (l.drop (k + 1)); rwa [List.take_append_drop] at this) HSUM.out)
      obtain ⟨W2, hW2⟩ : ∃ W2, wr.alloc (.cells (tC x) 48) = W2 := ⟨_, rfl⟩
      have k2 : Kept wr W2 := by rw [← hW2]; exact (Kept.refl wr).alloc _
      have hb2 : Blk W2 wr.heap.size 48 (tC x) := by rw [← hW2]; exact Blk.new wr _ _
      obtain ⟨d0, d1, d2, d3⟩ : W2.cell? ⟨wr.heap.size, 0, none⟩ = some (.int .i64 x.kind) ∧ W2.cell? ⟨wr.heap.size, 1, none⟩ = some (.string x.text) ∧ W2.cell? ⟨wr.heap.size, 2, none⟩ = some (.int .i64 x.n) ∧ W2.cell? ⟨wr.heap.size, 3, none⟩ = some (.int .i64 x.pos) := ⟨hb2.cell 0, hb2.cell 1, hb2.cell 2, hb2.cell 3⟩
      have HK2 := Lib.hid (HK.out.trans k2)
      have HSP := Lib.hid (spell_c x W2 (HT.out.kept HK2.out) (HP.out.kept HK2.out) (HE.out.kept HK2.out) HXK.out)
      have HB2 := Lib.hid (bld_kept HB.out k2)
      have HW2 := Lib.hid hW2
      have hz2 := k2.size
      cases htk : Lx.isTok x with
      | false =>
        obtain rfl : R = false := by
          rw [← HR.out, Bool.eq_false_iff]
          intro hall
          rw [List.all_eq_true] at hall
          rw [hall x HMEM.out] at htk
          cases htk
        rw [htk] at HSP
        unfold spellV at HSP
        clear htk hW2 k2 hb2 hkl
        go_wp2_with (rw [HW2.out])
        refine HSP.out.mono ?_
        rintro e w3 ⟨rfl, k3⟩
        go_wp2_with fail
        exact bodyPost_ret (results_tmp2 rfl _ _ _) rfl ⟨rfl, HK2.out.trans k3⟩
      | true =>
        have HA2 := Lib.hid (show ∀ y ∈ l.take (k + 1), Lx.isTok y = true from fun y hy => by
          rw [HTK.out] at hy
          rcases List.mem_append.1 hy with h | h
          · exact HA.out y h
          · rw [List.mem_singleton] at h; subst h; exact htk)
        rw [htk] at HSP
        unfold spellV at HSP
        clear htk hW2 k2 hb2 hkl
        generalize Lx.spl x = sp at *
        go_wp2_with (rw [HW2.out])
        refine HSP.out.mono ?_
        rintro e w3 ⟨rfl, k3⟩
        have HB3 := Lib.hid (bld_kept HB2.out k3)
        have HK3 := Lib.hid (HK2.out.trans k3)
        have hz3 := k3.size
        clear k3 HB2 HK2 HSP g0 g1 g2 g3 d0 d1 d2 d3
        by_cases hk0 : k = 0
        · subst hk0
          have hlb : (Lx.joinB (l.take 0)).length + sp.size ≤ 1000000 := by
            have h1 := HLE.out
            rw [HSN.out, if_pos rfl, List.append_nil, List.length_append] at h1
            have hsp : sp.data.toList.length = sp.size := by rw [Array.length_toList]; rfl
            omega
          have HWS := Lib.hid (bstr_c w.heap.size w.heap.size _ sp w3 HB3.out hlb (by omega))
          rw [if_pos rfl, List.append_nil] at HSN
          rw [← HSN.out] at HWS
          go_wp2_with fail
          refine HWS.out.mono ?_
          rintro e w4 ⟨rfl, hb4, hB4⟩
          have HB4 := Lib.hid hb4
          have HK4 := Lib.hid (kept_below HK3.out hB4)
          have hz4 := HK4.out.size
          clear hb4 hB4
          go_wp2_with fail
          go_roundw
          case rel => exact ⟨1, by omega, rfl, HB4, HK4, HA2, hz4⟩
          case measure => simp [intOf]; omega
        · have hk0I : (0 : Int) < (k : Int) := by omega
          rw [if_neg hk0] at HSN
          have hlb : (Lx.joinB (l.take k) ++ [32]).length + sp.size ≤ 1000000 := by
            have h1 := HLE.out
            rw [HSN.out, List.length_append] at h1
            have hsp : sp.data.toList.length = sp.size := by rw [Array.length_toList]; rfl
            omega
          have HWB := Lib.hid (bbyte_z w.heap.size w.heap.size _ 32 32 rfl w3 HB3.out (by rw [List.length_append] at hlb; omega) (by omega))
          clear hk0
          go_wp2_with fail
          refine HWB.out.mono ?_
          rintro e w4 ⟨rfl, hb4, hB4⟩
          have HWS := Lib.hid (bstr_c w.heap.size w.heap.size _ sp w4 hb4 hlb (by have := hB4.size; omega))
          rw [← HSN.out] at HWS
          have HK4 := Lib.hid (kept_below HK3.out hB4)
          clear hb4 hB4 HWB
          go_wp2_with fail
          refine HWS.out.mono ?_
          rintro e w5 ⟨rfl, hb5, hB5⟩
          have HB5 := Lib.hid hb5
          have HK5 := Lib.hid (kept_below HK4.out hB5)
          have hz5 := HK5.out.size
          clear hb5 hB5 HWS
          go_wp2_with fail
          go_roundw
          case rel => exact ⟨k + 1, by omega, by go_num, HB5, HK5, HA2, hz5⟩
          case measure => simp [intOf]; omega
    · obtain rfl : k = l.length := by omega
      have hltI : ¬ (l.length : Int) < (l.length : Int) := by omega
      obtain rfl : R = true := by
        rw [← HR.out, List.all_eq_true]
        intro y hy
        exact HA.out y (by rw [List.take_of_length_le (Nat.le_refl _)]; exact hy)
      have HBL := Lib.hid (show Bld w.heap.size w.heap.size (Lx.joinB l) wr by have := HB.out; rwa [List.take_of_length_le (Nat.le_refl _)] at this)
      have HST := Lib.hid (Tryz.Builder_String_any w.heap.size w.heap.size _ wr HBL.out hz)
      rw [HJ.out] at HST
      go_wp2_with fail
      refine HST.out.mono ?_
      rintro e w4 ⟨rfl, hB4⟩
      have HK4 := Lib.hid (kept_below HK.out hB4)
      clear hB4
      go_wp2_with fail
      exact bodyPost_ret (results_tmp2 rfl _ _ _) rfl ⟨rfl, HK4.out⟩

end Go.Proofs.YtfkmnpgpfmkjaaaGreatDoor
namespace Go.Proofs.YtfkmnpgpfmkjaaaGreatDoor
open Go.ChangeShapes Go.WideShapes Go.ChangeAt Go.RowKit Go.Shelf
attribute [local go_sem] Oper.semAt_some

theorem text_eq (s t : ByteArray) : (s.toList == t.toList) = decide (s = t) := by
  by_cases e : s = t
  · subst e; simp
  · rw [decide_eq_false e]
    refine beq_eq_false_iff_ne.2 (fun h => e ?_)
    rw [ByteArray.toList_eq, ByteArray.toList_eq] at h
    exact ByteArray.ext (Array.toList_inj.1 h)

theorem eqT (k n p k' n' p' : Int) (s t : ByteArray) (w : World) : (binOp .eql 48 (tagg k s n p) (tagg k' t n' p')).run Tryz.prog w = .ok (.bool (k == k' && (decide (s = t) && (n == n' && p == p')))) w := by
  have hp : Tryz.prog.stoodInHeld 48 = false := by kernel_rfl
  have h0 : (part 3 #[.int .i64 k, .string s, .int .i64 n, .int .i64 p] 0).run Tryz.prog w = .ok (.int .i64 k) w := by kernel_rfl
  have h1 : (part 9 #[.int .i64 k, .string s, .int .i64 n, .int .i64 p] 1).run Tryz.prog w = .ok (.string s) w := by kernel_rfl
  have h2 : (part 3 #[.int .i64 k, .string s, .int .i64 n, .int .i64 p] 2).run Tryz.prog w = .ok (.int .i64 n) w := by kernel_rfl
  have h3 : (part 3 #[.int .i64 k, .string s, .int .i64 n, .int .i64 p] 3).run Tryz.prog w = .ok (.int .i64 p) w := by kernel_rfl
  have g0 : (part 3 #[.int .i64 k', .string t, .int .i64 n', .int .i64 p'] 0).run Tryz.prog w = .ok (.int .i64 k') w := by kernel_rfl
  have g1 : (part 9 #[.int .i64 k', .string t, .int .i64 n', .int .i64 p'] 1).run Tryz.prog w = .ok (.string t) w := by kernel_rfl
  have g2 : (part 3 #[.int .i64 k', .string t, .int .i64 n', .int .i64 p'] 2).run Tryz.prog w = .ok (.int .i64 n') w := by kernel_rfl
  have g3 : (part 3 #[.int .i64 k', .string t, .int .i64 n', .int .i64 p'] 3).run Tryz.prog w = .ok (.int .i64 p') w := by kernel_rfl
  have e1 := fun d => run_equalIn_string (P := Tryz.prog) w d 9 s t Tryz.underlying9
  have e2 := fun d (m n : Int) => run_equalIn_int (P := Tryz.prog) w d 3 .i64 .i64 m n Tryz.underlying3
  have hf : Tryz.prog.fieldsOf 48 = #[{ name := "Kind", type := 3, offset := 0, embedded := false, tag := "", pkgPath := "", byteOffset := 0 }, { name := "Text", type := 9, offset := 1, embedded := false, tag := "", pkgPath := "", byteOffset := 8 }, { name := "N", type := 3, offset := 2, embedded := false, tag := "", pkgPath := "", byteOffset := 24 }, { name := "At", type := 3, offset := 3, embedded := false, tag := "", pkgPath := "", byteOffset := 32 }] := by kernel_rfl
  rw [run_eql_struct, show (10000 : Nat) = 9998 + 1 + 1 from rfl, run_equalIn_struct w _ _ _ _ (by rw [hf]; exact Tryz.underlying48) hp, hf]
  simp only [Op.eqFields, Sem.run_bind, Sem.run_ite, h0, h1, h2, h3, g0, g1, g2, g3, e1, e2, Result.andThen_ok, text_eq]
  cases ha : (k == k') <;> cases h2 : decide (s = t) <;> cases h3 : (n == n') <;> cases h4 : (p == p') <;> simp [Op.eqFields, Result.andThen]

theorem eqF (e a e' a' : Int) (w : World) : (binOp .eql 36 (fagg e a) (fagg e' a')).run Tryz.prog w = .ok (.bool (e == e' && a == a')) w := by
  have hp : Tryz.prog.stoodInHeld 36 = false := by kernel_rfl
  have h0 : (part 34 #[.int .i64 e, .int .i64 a] 0).run Tryz.prog w = .ok (.int .i64 e) w := by kernel_rfl
  have h1 : (part 3 #[.int .i64 e, .int .i64 a] 1).run Tryz.prog w = .ok (.int .i64 a) w := by kernel_rfl
  have g0 : (part 34 #[.int .i64 e', .int .i64 a'] 0).run Tryz.prog w = .ok (.int .i64 e') w := by kernel_rfl
  have g1 : (part 3 #[.int .i64 e', .int .i64 a'] 1).run Tryz.prog w = .ok (.int .i64 a') w := by kernel_rfl
  have e1 := fun d => run_equalIn_int (P := Tryz.prog) w d 34 .i64 .i64 e e' Tryz.underlying34
  have e2 := fun d => run_equalIn_int (P := Tryz.prog) w d 3 .i64 .i64 a a' Tryz.underlying3
  have hf : Tryz.prog.fieldsOf 36 = #[{ name := "Err", type := 34, offset := 0, embedded := false, tag := "", pkgPath := "", byteOffset := 0 }, { name := "At", type := 3, offset := 1, embedded := false, tag := "", pkgPath := "", byteOffset := 8 }] := by kernel_rfl
  rw [run_eql_struct, show (10000 : Nat) = 9998 + 1 + 1 from rfl, run_equalIn_struct w _ _ _ _ (by rw [hf]; exact Tryz.underlying36) hp, hf]
  simp only [Op.eqFields, Sem.run_bind, Sem.run_ite, h0, h1, g0, g1, e1, e2, Result.andThen_ok]
  cases ha : (e == e') <;> cases h2 : (a == a') <;> simp [Op.eqFields, Result.andThen]

namespace Lx
def plainE (x y : T) : Bool := x.kind == y.kind && (decide (x.text = y.text) && x.n == y.n)
def sameE (x y : T) : Bool := x.kind == y.kind && (decide (x.text = y.text) && (x.n == y.n && x.pos == y.pos))
/-- Lists compared, thing by thing. -/
def allE (f : T → T → Bool) (L M : List T) : Bool := decide (L.length = M.length) && (L.zip M).all fun q => f q.1 q.2
theorem allE_no {f : T → T → Bool} {L M : List T} {k : Nat} (h : (decide (L.length = M.length) && ((L.zip M).take k).all fun q => f q.1 q.2) = false) : allE f L M = false := by
  unfold allE
  cases hd : decide (L.length = M.length) with
  | false => rfl
  | true =>
    rw [hd, Bool.true_and] at h
    rw [Bool.true_and, Bool.eq_false_iff]
    intro ha
    rw [List.all_eq_true] at ha
    rw [Bool.eq_false_iff] at h
    exact h (List.all_eq_true.2 fun q hq => ha q (List.mem_of_mem_take hq))
theorem zip_next {L M : List T} {k : Nat} (hL : k < L.length) (hM : k < M.length) : (L.zip M).take (k + 1) = (L.zip M).take k ++ [(L[k], M[k])] := by
  rw [List.take_succ_eq_append_getElem (by rw [List.length_zip]; omega)]
  simp
end Lx

end Go.Proofs.YtfkmnpgpfmkjaaaGreatDoor
namespace Go.Proofs.YtfkmnpgpfmkjaaaGreatDoor
open Go.ChangeShapes Go.WideShapes Go.ChangeAt Go.RowKit Go.Shelf
attribute [local go_sem] Oper.semAt_some

namespace Lx
def lexesV (s : ByteArray) (M : List T) : Bool := ((lex s.data.toList).2.1 == 0 && (lex s.data.toList).2.2 == 0) && allE plainE (lex s.data.toList).1 M
def failsV (s : ByteArray) (e a : Int) : Bool := decide ((lex s.data.toList).1.length = 0) && ((lex s.data.toList).2.1 == e && (lex s.data.toList).2.2 == a)
def spellsV (x : T) (want : ByteArray) (err : Int) : Bool := match isTok x with
  | true => decide (spl x = want) && (0 : Int) == err
  | false => decide ((⟨#[]⟩ : ByteArray) = want) && (5 : Int) == err
end Lx

theorem cell1_results {fn : Func} {p : Tmp} (h : fn.results = #[.cell p 48]) (tmps : Array Value) (W : World) {g : Nat} {k n po : Value} {x : Value}
    (hp : tmps.getD p undef = .pointer (some ⟨g, 0, none⟩)) (hg : Blk W g 48 #[k, x, n, po]) : (results fn tmps).run Tryz.prog W = .ok (.agg #[k, x, n, po]) W :=
  results_cell_row (P := Tryz.prog) h tmps W g 48 #[k, x, n, po] (0, 0) _ hp hg Tryz.underlying48 (by rfl) (by kernel_rfl)

/-- A row of tokens made at once. -/
theorem tks_lit {W : World} {g : Nat} (l : List Lx.T) {cs : Array Value} (h : Blk W g 48 cs) (hc : cs = (l.flatMap tCells).toArray) (n : Nat) (hn : n = l.length) (hl : l.length ≤ 1000) : TksAt W (.slice (some ⟨g, 0, none⟩) n n) l := by
  subst hc hn
  refine ⟨_, _, rfl, Nat.le_refl _, by unfold maxLen; omega, fun i x hx => ⟨g, 0, rfl, ?_⟩⟩
  have c : ∀ j, W.cell? ⟨g, j, none⟩ = (l.flatMap tCells)[j]? := fun j => by rw [h.cell j, ← Array.getElem?_toList]
  have e0 := flat_at tCells tCells_len l i 0 x hx (by omega)
  have e1 := flat_at tCells tCells_len l i 1 x hx (by omega)
  have e2 := flat_at tCells tCells_len l i 2 x hx (by omega)
  have e3 := flat_at tCells tCells_len l i 3 x hx (by omega)
  rw [Nat.zero_add]
  exact ⟨by rw [c, ← Nat.add_zero (i * 4), e0]; rfl, by rw [c, e1]; rfl, by rw [c, e2]; rfl, by rw [c, e3]; rfl⟩

end Go.Proofs.YtfkmnpgpfmkjaaaGreatDoor
