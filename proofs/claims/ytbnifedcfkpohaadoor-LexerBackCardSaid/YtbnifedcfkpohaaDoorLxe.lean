/- Contracts of the statements' helpers: lexes, fails, spells, key, name, sign; some of the chapter's examples. -/
import Derived.Test.YtbnifedcfkpohaaDoorLxd
set_option linter.unusedSimpArgs false
set_option linter.unusedVariables false
set_option maxRecDepth 100000
namespace Go.Proofs.YtbnifedcfkpohaaDoor
open Go.ChangeShapes Go.WideShapes Go.ChangeAt Go.RowKit Go.Shelf
attribute [local go_sem] Oper.semAt_some

namespace Lx
def lexesV (s : ByteArray) (M : List T) : Bool := ((lex s.data.toList).2.1 == 0 && (lex s.data.toList).2.2 == 0) && allE plainE (lex s.data.toList).1 M
def failsV (s : ByteArray) (e a : Int) : Bool := decide ((lex s.data.toList).1.length = 0) && ((lex s.data.toList).2.1 == e && (lex s.data.toList).2.2 == a)
def spellsV (x : T) (want : ByteArray) (err : Int) : Bool := match isTok x with
  | true => decide (spl x = want) && (0 : Int) == err
  | false => decide ((⟨#[]⟩ : ByteArray) = want) && (5 : Int) == err
end Lx

set_option maxHeartbeats 4000000 in
theorem lexes_c (s : ByteArray) (hs : s.size ≤ 1000000) (M : List Lx.T) (b : Option Addr) (d : Nat) (w : World) (hM : TksAt w (.slice b M.length d) M) (hT : Tb w) (hE : Er w) :
    Calls Tryd.prog 7 #[.string s, .slice b M.length d] w fun e w' => e = .returned (.bool (Lx.lexesV s M)) ∧ Kept w w' := by
  have hcv := Lib.run_convert_string_bytes (P := Tryd.prog) w 9 35 5 s Tryd.underlying9 Tryd.underlying35 Tryd.underlying5
  have hl : s.data.toList.length = s.size := by rw [Array.length_toList]; rfl
  have hsrc := src_of_text s w hs
  obtain ⟨W4, hW4⟩ : ∃ W4, Lib.bytesWorld w 5 s = W4 := ⟨_, rfl⟩
  have k4 : Kept w W4 := by rw [← hW4]; exact Kept.of_below (Lib.bytesWorld_below _ _ _)
  rw [hW4] at hcv hsrc
  have HLX := Lib.hid (lex_c (some ⟨w.heap.size, 0, none⟩) _ s.data.toList W4 hsrc (hT.kept k4) (hE.kept k4))
  rw [hl] at HLX
  have HM := Lib.hid (fun W (k : Kept w W) => tks_kept hM k)
  have HK4 := Lib.hid k4
  obtain ⟨R, hR⟩ : ∃ R, Lx.lexesV s M = R := ⟨_, rfl⟩
  rw [hR]
  unfold Lx.lexesV at hR
  clear hsrc hW4 k4 hM hT hE hl
  go_enter Tryd.func7, Tryd.ntmps7
  go_wp2_with fail
  refine HLX.out.mono ?_
  rintro e w5 ⟨a', c', rfl, hrow, k5⟩
  have HK5 := Lib.hid (HK4.out.trans k5)
  clear k5 HK4 HLX hcv
  generalize (Lx.lex s.data.toList).1 = L at *
  generalize (Lx.lex s.data.toList).2.1 = ev at *
  generalize (Lx.lex s.data.toList).2.2 = av at *
  obtain ⟨W6, hW6⟩ : ∃ W6, w5.alloc (.cells #[.int .i64 ev, .int .i64 av] 38) = W6 := ⟨_, rfl⟩
  have k6 : Kept w5 W6 := by rw [← hW6]; exact (Kept.refl w5).alloc _
  have HW6 := Lib.hid hW6
  have hb6 : Blk W6 w5.heap.size 38 #[.int .i64 ev, .int .i64 av] := by rw [← hW6]; exact Blk.new w5 _ _
  obtain ⟨e0, e1⟩ : W6.cell? ⟨w5.heap.size, 0, none⟩ = some (.int .i64 ev) ∧ W6.cell? ⟨w5.heap.size, 1, none⟩ = some (.int .i64 av) := ⟨hb6.cell 0, hb6.cell 1⟩
  have HK6 := Lib.hid (HK5.out.trans k6)
  have HPL := Lib.hid (plain_c L M a' b c' d W6 (tks_kept hrow k6) (HM.out _ HK6.out))
  have hq := fun W => eqF ev av 0 0 W
  obtain ⟨v, hv⟩ : ∃ v, (ev == 0 && av == 0) = v := ⟨_, rfl⟩
  rw [hv] at hq hR
  have HR := Lib.hid hR
  clear hrow k6 hW6 hb6 hv hR
  cases v with
  | false =>
    obtain rfl : R = false := HR.out.symm
    go_wp2_with (rw [HW6.out])
    go_ret
    exact ⟨rfl, HK6.out⟩
  | true =>
    obtain rfl : Lx.allE Lx.plainE L M = R := HR.out
    go_wp2_with (rw [HW6.out])
    refine HPL.out.mono ?_
    rintro e w7 ⟨rfl, k7⟩
    go_wp2_with fail
    go_ret
    exact ⟨rfl, HK6.out.trans k7⟩

set_option maxHeartbeats 4000000 in
theorem fails_c (s : ByteArray) (hs : s.size ≤ 1000000) (e a : Int) (w : World) (hT : Tb w) (hE : Er w) :
    Calls Tryd.prog 8 #[.string s, .int .i64 e, .int .i64 a] w fun r w' => r = .returned (.bool (Lx.failsV s e a)) ∧ Kept w w' := by
  have hcv := Lib.run_convert_string_bytes (P := Tryd.prog) w 9 35 5 s Tryd.underlying9 Tryd.underlying35 Tryd.underlying5
  have hl : s.data.toList.length = s.size := by rw [Array.length_toList]; rfl
  have hsrc := src_of_text s w hs
  obtain ⟨W4, hW4⟩ : ∃ W4, Lib.bytesWorld w 5 s = W4 := ⟨_, rfl⟩
  have k4 : Kept w W4 := by rw [← hW4]; exact Kept.of_below (Lib.bytesWorld_below _ _ _)
  rw [hW4] at hcv hsrc
  have HLX := Lib.hid (lex_c (some ⟨w.heap.size, 0, none⟩) _ s.data.toList W4 hsrc (hT.kept k4) (hE.kept k4))
  rw [hl] at HLX
  have HK4 := Lib.hid k4
  obtain ⟨R, hR⟩ : ∃ R, Lx.failsV s e a = R := ⟨_, rfl⟩
  rw [hR]
  unfold Lx.failsV at hR
  clear hsrc hW4 k4 hT hE hl
  go_enter Tryd.func8, Tryd.ntmps8
  go_wp2_with fail
  refine HLX.out.mono ?_
  rintro e' w5 ⟨a', c', rfl, hrow, k5⟩
  have HK5 := Lib.hid (HK4.out.trans k5)
  clear k5 HK4 HLX hcv hrow
  generalize (Lx.lex s.data.toList).1 = L at *
  generalize (Lx.lex s.data.toList).2.1 = ev at *
  generalize (Lx.lex s.data.toList).2.2 = av at *
  obtain ⟨W6, hW6⟩ : ∃ W6, w5.alloc (.cells #[.int .i64 ev, .int .i64 av] 38) = W6 := ⟨_, rfl⟩
  have k6 : Kept w5 W6 := by rw [← hW6]; exact (Kept.refl w5).alloc _
  have HW6 := Lib.hid hW6
  have hb6 : Blk W6 w5.heap.size 38 #[.int .i64 ev, .int .i64 av] := by rw [← hW6]; exact Blk.new w5 _ _
  obtain ⟨e0, e1⟩ : W6.cell? ⟨w5.heap.size, 0, none⟩ = some (.int .i64 ev) ∧ W6.cell? ⟨w5.heap.size, 1, none⟩ = some (.int .i64 av) := ⟨hb6.cell 0, hb6.cell 1⟩
  have HK6 := Lib.hid (HK5.out.trans k6)
  have hq := fun W => eqF ev av e a W
  by_cases h0 : L.length = 0
  · obtain ⟨v, hv⟩ : ∃ v, (ev == e && av == a) = v := ⟨_, rfl⟩
    rw [hv] at hq
    obtain rfl : v = R := by rw [← hR, decide_eq_true h0, hv]; rfl
    have h0I : ((L.length : Int) == 0) = true := by rw [h0]; rfl
    generalize L.length = n at *
    clear k6 hW6 hb6 hv hR h0
    go_wp2_with (rw [HW6.out])
    go_ret
    exact ⟨rfl, HK6.out⟩
  · obtain rfl : R = false := by rw [← hR, decide_eq_false h0]; rfl
    have h0I : ((L.length : Int) == 0) = false := by rw [beq_eq_false_iff_ne]; omega
    generalize L.length = n at *
    clear k6 hW6 hb6 hR h0
    go_wp2_with (rw [HW6.out])
    go_ret
    exact ⟨rfl, HK6.out⟩

set_option maxHeartbeats 4000000 in
theorem spells_c (x : Lx.T) (want : ByteArray) (err : Int) (w : World) (hT : Tb w) (hP : Pw w) (hE : Er w) (hx : TokOk x) :
    Calls Tryd.prog 13 #[tV x, .string want, .int .i64 err] w fun r w' => r = .returned (.bool (Lx.spellsV x want err)) ∧ Kept w w' := by
  obtain ⟨W1, hW1⟩ : ∃ W1, w.alloc (.cells (tC x) 24) = W1 := ⟨_, rfl⟩
  have k1 : Kept w W1 := by rw [← hW1]; exact (Kept.refl w).alloc _
  have b1 : Blk W1 w.heap.size 24 (tC x) := by rw [← hW1]; exact Blk.new w _ _
  obtain ⟨c0, c1, c2, c3⟩ : W1.cell? ⟨w.heap.size, 0, none⟩ = some (.int .i64 x.kind) ∧ W1.cell? ⟨w.heap.size, 1, none⟩ = some (.string x.text) ∧ W1.cell? ⟨w.heap.size, 2, none⟩ = some (.int .i64 x.n) ∧ W1.cell? ⟨w.heap.size, 3, none⟩ = some (.int .i64 x.pos) := ⟨b1.cell 0, b1.cell 1, b1.cell 2, b1.cell 3⟩
  have HS := Lib.hid (spell_c x W1 (hT.kept k1) (hP.kept k1) (hE.kept k1) hx)
  have HW1 := Lib.hid hW1
  have HK1 := Lib.hid k1
  obtain ⟨R, hR⟩ : ∃ R, Lx.spellsV x want err = R := ⟨_, rfl⟩
  rw [hR]
  unfold Lx.spellsV at hR
  clear hW1 k1 b1 hT hP hE hx
  generalize Lx.spl x = sp at *
  cases hi : Lx.isTok x with
  | true =>
    rw [hi] at hR HS
    unfold spellV at HS
    have hte := text_eq sp want
    obtain ⟨v, hv⟩ : ∃ v, decide (sp = want) = v := ⟨_, rfl⟩
    rw [hv] at hte
    have hR : (v && (0 : Int) == err) = R := by rw [← hv]; exact hR
    obtain ⟨u, hu⟩ : ∃ u, ((0 : Int) == err) = u := ⟨_, rfl⟩
    rw [hu] at hR
    clear hv hi
    cases v with
    | true =>
      obtain rfl : u = R := hR
      go_enter Tryd.func13, Tryd.ntmps13
      go_wp2_with (rw [HW1.out])
      refine HS.out.mono ?_
      rintro e w3 ⟨rfl, k3⟩
      go_wp2_with fail
      go_ret
      exact ⟨rfl, HK1.out.trans k3⟩
    | false =>
      obtain rfl : R = false := hR.symm
      go_enter Tryd.func13, Tryd.ntmps13
      go_wp2_with (rw [HW1.out])
      refine HS.out.mono ?_
      rintro e w3 ⟨rfl, k3⟩
      go_wp2_with fail
      go_ret
      exact ⟨rfl, HK1.out.trans k3⟩
  | false =>
    rw [hi] at hR HS
    unfold spellV at HS
    have hte := text_eq ⟨#[]⟩ want
    obtain ⟨v, hv⟩ : ∃ v, decide ((⟨#[]⟩ : ByteArray) = want) = v := ⟨_, rfl⟩
    rw [hv] at hte
    have hte2 : ((ByteArray.empty).toList == want.toList) = v := hte
    have hte3 : (([] : List UInt8) == want.toList) = v := by rw [← hte, ByteArray.toList_eq ⟨#[]⟩]
    have hR : (v && (5 : Int) == err) = R := by rw [← hv]; exact hR
    obtain ⟨u, hu⟩ : ∃ u, ((5 : Int) == err) = u := ⟨_, rfl⟩
    rw [hu] at hR
    clear hv hi
    cases v with
    | true =>
      obtain rfl : u = R := hR
      go_enter Tryd.func13, Tryd.ntmps13
      go_wp2_with (rw [HW1.out])
      refine HS.out.mono ?_
      rintro e w3 ⟨rfl, k3⟩
      go_wp2_with fail
      go_ret
      exact ⟨rfl, HK1.out.trans k3⟩
    | false =>
      obtain rfl : R = false := hR.symm
      go_enter Tryd.func13, Tryd.ntmps13
      go_wp2_with (rw [HW1.out])
      refine HS.out.mono ?_
      rintro e w3 ⟨rfl, k3⟩
      go_wp2_with fail
      go_ret
      exact ⟨rfl, HK1.out.trans k3⟩

theorem cell1_results {fn : Func} {p : Tmp} (h : fn.results = #[.cell p 24]) (tmps : Array Value) (W : World) {g : Nat} {k n po : Value} {x : Value}
    (hp : tmps.getD p undef = .pointer (some ⟨g, 0, none⟩)) (hg : Blk W g 24 #[k, x, n, po]) : (results fn tmps).run Tryd.prog W = .ok (.agg #[k, x, n, po]) W :=
  results_cell_row (P := Tryd.prog) h tmps W g 24 #[k, x, n, po] (0, 0) _ hp hg Tryd.underlying24 (by rfl) (by kernel_rfl)

theorem lkey_c (s : ByteArray) (w : World) : Calls Tryd.prog 24 #[.string s] w fun e w' => e = .returned (tagg 3 s 0 0) ∧ Kept w w' := by
  go_enter Tryd.func24, Tryd.ntmps24
  go_wp2
  exact bodyPost_ret (cell1_results (by rfl) _ _ rfl (Blk.new _ _ _)) rfl ⟨rfl, (Kept.refl w).alloc _⟩
theorem lname_c (s : ByteArray) (w : World) : Calls Tryd.prog 10 #[.string s] w fun e w' => e = .returned (tagg 1 s 0 0) ∧ Kept w w' := by
  go_enter Tryd.func10, Tryd.ntmps10
  go_wp2
  exact bodyPost_ret (cell1_results (by rfl) _ _ rfl (Blk.new _ _ _)) rfl ⟨rfl, (Kept.refl w).alloc _⟩
theorem lsgn_c (s : ByteArray) (w : World) : Calls Tryd.prog 11 #[.string s] w fun e w' => e = .returned (tagg 7 s 0 0) ∧ Kept w w' := by
  go_enter Tryd.func11, Tryd.ntmps11
  go_wp2
  exact bodyPost_ret (cell1_results (by rfl) _ _ rfl (Blk.new _ _ _)) rfl ⟨rfl, (Kept.refl w).alloc _⟩

/-- A row of tokens made at once. -/
theorem tks_lit {W : World} {g : Nat} (l : List Lx.T) {cs : Array Value} (h : Blk W g 24 cs) (hc : cs = (l.flatMap tCells).toArray) (n : Nat) (hn : n = l.length) (hl : l.length ≤ 1000) : TksAt W (.slice (some ⟨g, 0, none⟩) n n) l := by
  subst hc hn
  refine ⟨_, _, rfl, Nat.le_refl _, by unfold maxLen; omega, fun i x hx => ⟨g, 0, rfl, ?_⟩⟩
  have c : ∀ j, W.cell? ⟨g, j, none⟩ = (l.flatMap tCells)[j]? := fun j => by rw [h.cell j, ← Array.getElem?_toList]
  have e0 := flat_at tCells tCells_len l i 0 x hx (by omega)
  have e1 := flat_at tCells tCells_len l i 1 x hx (by omega)
  have e2 := flat_at tCells tCells_len l i 2 x hx (by omega)
  have e3 := flat_at tCells tCells_len l i 3 x hx (by omega)
  rw [Nat.zero_add]
  exact ⟨by rw [c, ← Nat.add_zero (i * 4), e0]; rfl, by rw [c, e1]; rfl, by rw [c, e2]; rfl, by rw [c, e3]; rfl⟩

end Go.Proofs.YtbnifedcfkpohaaDoor
