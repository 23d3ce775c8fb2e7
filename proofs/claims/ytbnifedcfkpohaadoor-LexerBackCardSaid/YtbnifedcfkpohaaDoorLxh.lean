/- LexerCut's walk over any bytes in memory. -/
import Derived.Test.YtbnifedcfkpohaaDoorLxg
import Derived.Test.YtbnifedcfkpohaaDoorLxf
import Derived.Test.YtbnifedcfkpohaaDoorPkv
set_option linter.unusedSimpArgs false
set_option linter.unusedVariables false
set_option maxRecDepth 100000
namespace Go.Proofs.YtbnifedcfkpohaaDoor
open Go.ChangeShapes Go.WideShapes Go.ChangeAt Go.RowKit Go.Shelf
attribute [local go_sem] Oper.semAt_some

namespace Lx
theorem resOf_ok : ∀ (q : List Q), (∀ x ∈ q, x.2.1 = 0 → x.2 = (0, 0)) → (resOf q).2.1 = 0 → ∀ x ∈ q, x.2 = (0, 0)
  | [], _, _, x, hx => by cases hx
  | (t, e, a) :: q, hz, h, x, hx => by
    rw [resOf] at h
    by_cases he : e = 0
    · rw [if_pos he] at h
      have h2 : (resOf q).2.1 = 0 := by
        by_cases h3 : (resOf q).2.1 = 0
        · exact h3
        · rw [if_neg h3] at h; exact h
      rcases List.mem_cons.1 hx with rfl | hx
      · exact hz _ (by simp) he
      · exact resOf_ok q (fun y hy => hz y (by simp [hy])) h2 x hx
    · rw [if_neg he] at h; exact absurd h he

theorem lex_ok {l : List UInt8} (h : (lex l).2.1 = 0) (hl : l.length ≤ 20000) : (∀ x ∈ seq l, x.2 = (0, 0)) ∧ lex l = ((seq l).map (·.1), 0, 0) := by
  have hn : ¬ 20000 < l.length := by omega
  have e : lex l = resOf (seq l) := by unfold lex; rw [if_neg hn]
  rw [e] at h
  have h2 := resOf_ok (seq l) (fun x hx => seqF_zero _ _ _ x hx) h
  exact ⟨h2, by rw [e]; exact resOf_good _ h2⟩

/-- What is cut off ahead of a token. -/
theorem seqF_cut : ∀ (g p : Nat) (s : List UInt8), (∀ x ∈ seqF g p s, x.2 = (0, 0)) → ∀ (i : Nat) (q : Q), (seqF g p s)[i]? = some q → ∀ g', i < g' →
    ∃ P : Nat, q.1.pos = (P : Int) ∧ p + i ≤ P ∧ P < p + s.length ∧ seqF g' p (s.take (P - p)) = (seqF g p s).take i
  | 0, p, s, _, i, q, hq, _, _ => by simp [seqF] at hq
  | g + 1, p, s, hg, i, q, hq, g', hi => by
    rw [seqF] at hg hq ⊢
    by_cases he : (s.drop (skip false s)).length = 0
    · rw [if_pos he] at hq; simp at hq
    · rw [if_neg he] at hg hq ⊢
      have hsk := skip_le false s
      rw [List.length_drop] at he
      cases ht : tok (s.drop (skip false s)) with
      | bad e o =>
        have hb := tok_bad ht
        have := hg (zeroT, e, ((p + skip false s + o : Nat) : Int)) (by rw [ht]; simp)
        injection this with h1 _
        exact absurd h1 hb
      | tok k x v len =>
        have hlen := tok_len (by rw [List.length_drop]; omega) ht
        rw [List.length_drop] at hlen
        rw [ht] at hq hg
        have hq : (((⟨k, x, v, ((p + skip false s : Nat) : Int)⟩, 0, 0) : Q) :: seqF g (p + skip false s + len) ((s.drop (skip false s)).drop len))[i]? = some q := hq
        have hg : ∀ y ∈ ((⟨k, x, v, ((p + skip false s : Nat) : Int)⟩, 0, 0) : Q) :: seqF g (p + skip false s + len) ((s.drop (skip false s)).drop len), y.2 = (0, 0) := hg
        show ∃ P : Nat, q.1.pos = (P : Int) ∧ p + i ≤ P ∧ P < p + s.length ∧ seqF g' p (s.take (P - p)) = (((⟨k, x, v, ((p + skip false s : Nat) : Int)⟩, 0, 0) : Q) :: seqF g (p + skip false s + len) ((s.drop (skip false s)).drop len)).take i
        obtain ⟨g'', rfl⟩ : ∃ n, g' = n + 1 := ⟨g' - 1, by omega⟩
        cases i with
        | zero =>
          obtain rfl : _ = q := by simpa using hq
          refine ⟨p + skip false s, rfl, by omega, by omega, ?_⟩
          rw [Nat.add_sub_cancel_left, List.take_zero, seqF, skip_take false s _ (Nat.le_refl _), if_pos]
          rw [List.length_drop, List.length_take]; omega
        | succ j =>
          rw [List.getElem?_cons_succ] at hq
          obtain ⟨P, h1, h2, h3, h4⟩ := seqF_cut g (p + skip false s + len) ((s.drop (skip false s)).drop len) (fun y hy => hg y (List.mem_cons_of_mem _ hy)) j q hq g'' (by omega)
          rw [List.length_drop, List.length_drop] at h3
          refine ⟨P, h1, by omega, by omega, ?_⟩
          rw [seqF, skip_take false s _ (by omega), if_neg (by rw [List.length_drop, List.length_take]; omega), List.drop_take]
          rw [tok_take hlen.1 ht (by omega)]
          show _ :: seqF g'' (p + skip false s + len) (((s.drop (skip false s)).take (P - p - skip false s)).drop len) = _
          rw [List.drop_take, show P - p - skip false s - len = P - (p + skip false s + len) by omega, h4]
          rfl

/-- LexerCut, in plain words. -/
theorem lex_cut {l : List UInt8} (hl : l.length ≤ 20000) (h : (lex l).2.1 = 0) {i : Nat} {t : T} (ht : (lex l).1[i]? = some t) :
    ∃ P : Nat, t.pos = (P : Int) ∧ P < l.length ∧ lex (l.take P) = ((lex l).1.take i, 0, 0) := by
  obtain ⟨hg, he⟩ := lex_ok h hl
  rw [he] at ht ⊢
  rw [List.getElem?_map] at ht
  cases hq : (seq l)[i]? with
  | none => rw [hq] at ht; cases ht
  | some q =>
    rw [hq] at ht
    obtain rfl : q.1 = t := by simpa using ht
    have hil := (List.getElem?_eq_some_iff.1 hq).1
    obtain ⟨P, h1, h2, h3, h4⟩ := seqF_cut (l.length + 1) 0 l hg i q hq (l.length + 1) (by have := seqF_len (l.length + 1) 0 l; unfold seq at hil; omega)
    rw [Nat.zero_add] at h2 h3
    rw [Nat.sub_zero] at h4
    refine ⟨P, h1, h3, ?_⟩
    obtain ⟨P2, g1, _, _, g4⟩ := seqF_cut (l.length + 1) 0 l hg i q hq ((l.take P).length + 1) (by rw [List.length_take]; omega)
    obtain rfl : P2 = P := by have := h1.symm.trans g1; omega
    rw [Nat.sub_zero] at g4
    have e2 : seq (l.take P2) = (seq l).take i := g4
    unfold lex
    rw [if_neg (by rw [List.length_take]; omega), e2, resOf_good _ (fun y hy => hg y (List.mem_of_mem_take hy))]
    rw [List.map_take]
end Lx

/-- A list compared with itself. -/
theorem same_refl (l : List Lx.T) : Lx.allE Lx.sameE l l = true := by
  unfold Lx.allE
  rw [decide_eq_true rfl, Bool.true_and, List.all_eq_true]
  rintro ⟨x, y⟩ h
  have : x = y := by
    obtain ⟨i, hi, e⟩ := List.getElem_of_mem h
    rw [List.getElem_zip] at e
    injection e with e1 e2
    rw [← e1, ← e2]
  subst this
  simp [Lx.sameE]

theorem SrcAt.cut {w : World} {a : Option Addr} {c : Nat} {l : List UInt8} (h : SrcAt w (.slice a l.length c) l) {i : Nat} (hi : i ≤ l.length) : SrcAt w (.slice a i c) (l.take i) := Row.take h hi

set_option maxHeartbeats 8000000 in
theorem cut_c (a : Option Addr) (c : Nat) (l : List UInt8) (x : Int) (w : World) (h : SrcAt w (.slice a l.length c) l) (hT : Tb w) (hP : Pw w) (hE : Er w) (hx0 : -9223372036854775808 ≤ x) (hx1 : x ≤ 9223372036854775807) :
    Calls Tryd.prog 6 #[.slice a l.length c, .int .i64 x] w fun e w' => e = .returned (.bool true) ∧ Kept w w' := by
  have hcap := h.cap
  unfold maxLen at hcap
  have HA := Lib.hid (awake_c w hT hP hE)
  have HS := Lib.hid h
  have HT := Lib.hid hT
  have HE := Lib.hid hE
  clear h hT hP hE
  go_enter Tryd.func6, Tryd.ntmps6
  go_wp2_with fail
  refine HA.out.mono ?_
  rintro e w1 ⟨rfl, k1⟩
  have HK1 := Lib.hid k1
  clear k1 HA
  by_cases hl : 1000 < l.length
  · have hlI : (1000 : Int) < (l.length : Int) := by omega
    go_wp2_with fail
    go_ret
    exact ⟨rfl, HK1.out⟩
  · have hlI : ¬ (1000 : Int) < (l.length : Int) := by omega
    have HLX := Lib.hid (lex_c a c l w1 (src_kept HS.out HK1.out) (HT.out.kept HK1.out) (HE.out.kept HK1.out))
    go_wp2_with fail
    refine HLX.out.mono ?_
    rintro e w2 ⟨a', c', rfl, hrow, k2⟩
    have HK2 := Lib.hid (HK1.out.trans k2)
    have HROW := Lib.hid hrow
    clear k2 HLX HK1 hrow
    obtain ⟨L, hL⟩ : ∃ L, (Lx.lex l).1 = L := ⟨_, rfl⟩
    obtain ⟨ev, hev⟩ : ∃ ev, (Lx.lex l).2.1 = ev := ⟨_, rfl⟩
    obtain ⟨av, hav⟩ : ∃ av, (Lx.lex l).2.2 = av := ⟨_, rfl⟩
    have HLL := Lib.hid hL
    have HEV := Lib.hid hev
    rw [hL] at HROW ⊢
    rw [hev, hav]
    clear hL hev hav
    obtain ⟨W3, hW3⟩ : ∃ W3, w2.alloc (.cells #[.int .i64 ev, .int .i64 av] 38) = W3 := ⟨_, rfl⟩
    have k3 : Kept w2 W3 := by rw [← hW3]; exact (Kept.refl w2).alloc _
    have hb3 : Blk W3 w2.heap.size 38 #[.int .i64 ev, .int .i64 av] := by rw [← hW3]; exact Blk.new w2 _ _
    obtain ⟨e0, e1⟩ : W3.cell? ⟨w2.heap.size, 0, none⟩ = some (.int .i64 ev) ∧ W3.cell? ⟨w2.heap.size, 1, none⟩ = some (.int .i64 av) := ⟨hb3.cell 0, hb3.cell 1⟩
    have HW3 := Lib.hid hW3
    have HK3 := Lib.hid (HK2.out.trans k3)
    have HR3 := Lib.hid (tks_kept HROW.out k3)
    clear hW3 k3 hb3 HROW HK2
    by_cases hev : ev = 0
    · by_cases h0 : L.length = 0
      · have h0I : ((L.length : Int) == 0) = true := by rw [h0]; rfl
        have hevI : (ev != 0) = false := by simp [hev]
        have hevI2 : (ev == 0) = true := by simp [hev]
        clear hev h0
        generalize L.length = n at *
        go_wp2_with (rw [HW3.out])
        go_ret
        exact ⟨rfl, HK3.out⟩
      · have hevI : (ev != 0) = false := by simp [hev]
        have hevI2 : (ev == 0) = true := by simp [hev]
        have h0I : ((L.length : Int) == 0) = false := by rw [beq_eq_false_iff_ne]; omega
        have hok : (Lx.lex l).2.1 = 0 := by rw [HEV.out, hev]
        have hLlen : L.length ≤ 1001 := by
          have h1 := (Lx.lex_ok hok (by omega)).2
          have h2 : L = (Lx.seq l).map (·.1) := by rw [← HLL.out, h1]
          rw [h2, List.length_map]
          have := seq_len l
          omega
        have HPK := Lib.hid (pick_v x L.length W3 (by omega) (by omega) hx0 hx1)
        have hq := pickN_lt x (show 0 < L.length by omega)
        generalize pickN x L.length = q at HPK hq
        obtain ⟨P, hP1, hP2, hP3⟩ := Lx.lex_cut (l := l) (i := q) (t := L[q]) (by omega) hok (by rw [HLL.out]; exact List.getElem?_eq_getElem hq)
        rw [HLL.out] at hP3
        have HC := Lib.hid hP3
        have hcutS := SrcAt.cut (src_kept HS.out HK3.out) (show P ≤ l.length by omega)
        have htl : (l.take P).length = P := by rw [List.length_take]; omega
        obtain ⟨ra, rc, e, hrl, hrm, hat⟩ := HR3.out
        injection e with ea _ ec
        subst ea ec
        obtain ⟨g, o, rfl, g0, g1, g2, g3⟩ := hat q L[q] (List.getElem?_eq_getElem hq)
        rw [hP1] at g3
        have hqI : (q : Int) < (L.length : Int) := by omega
        have HLX2 := Lib.hid (lex_c a c (l.take P) W3 (by rw [htl]; exact hcutS) (HT.out.kept HK3.out) (HE.out.kept HK3.out))
        unfold LexPost at HLX2
        have htq : (L.take q).length = q := by rw [List.length_take]; omega
        rw [HC.out, htl, htq] at HLX2
        have hPI : (P : Int) < (l.length : Int) := by omega
        have hPc : (P : Int) ≤ (c : Int) := by omega
        have HTK := Lib.hid (fun W (k : Kept W3 W) => Row.take (tks_kept HR3.out k) (show q ≤ L.length by omega))
        have hrcI : (L.length : Int) ≤ (c' : Int) := by omega
        unfold maxLen at hrm
        clear hev h0 hok hP1 hP3 hcutS htl hat HC htq g0 g1 g2 HLL HEV
        go_wp2_with (rw [HW3.out])
        refine HPK.out.mono ?_
        rintro e w4 ⟨rfl, rfl⟩
        go_wp2_with fail
        refine HLX2.out.mono ?_
        rintro e w5 ⟨a'', c'', rfl, hrow2, k5⟩
        obtain ⟨W6, hW6⟩ : ∃ W6, w5.alloc (.cells #[.int .i64 0, .int .i64 0] 38) = W6 := ⟨_, rfl⟩
        have k6 : Kept w5 W6 := by rw [← hW6]; exact (Kept.refl w5).alloc _
        have hb6 : Blk W6 w5.heap.size 38 #[.int .i64 0, .int .i64 0] := by rw [← hW6]; exact Blk.new w5 _ _
        obtain ⟨r0, r1⟩ : W6.cell? ⟨w5.heap.size, 0, none⟩ = some (.int .i64 0) ∧ W6.cell? ⟨w5.heap.size, 1, none⟩ = some (.int .i64 0) := ⟨hb6.cell 0, hb6.cell 1⟩
        have htq : (L.take q).length = q := by rw [List.length_take]; omega
        have hsm := same_c (L.take q) (L.take q) a'' (some ⟨g, o, none⟩) c'' c' W6 (by rw [htq]; exact tks_kept hrow2 k6) (by rw [htq]; exact HTK.out W6 (k5.trans k6))
        rw [htq, same_refl] at hsm
        have HSM := Lib.hid hsm
        have hqf := fun W => eqF 0 0 0 0 W
        have hqf2 : ((0 : Int) == 0 && (0 : Int) == 0) = true := rfl
        rw [hqf2] at hqf
        have HK6 := Lib.hid (HK3.out.trans (k5.trans k6))
        clear k6 hb6 htq hsm hrow2 k5 HTK HLX2 HPK g3 e0 e1
        subst hW6
        go_wp2_with fail
        refine HSM.out.mono ?_
        rintro e w7 ⟨rfl, k7⟩
        go_wp2_with fail
        go_ret
        exact ⟨rfl, HK6.out.trans k7⟩
    · have hevI : (ev != 0) = true := by simp [hev]
      have hevI2 : (ev == 0) = false := by simp [hev]
      clear hev
      generalize L.length = n at *
      go_wp2_with (rw [HW3.out])
      go_ret
      exact ⟨rfl, HK3.out⟩

end Go.Proofs.YtbnifedcfkpohaaDoor
