/- Plain: what LexerBlanks says. No program is named here. -/
import Derived.Test.YtbnifedcfkpohaaDoorLxj
import Derived.Test.YtbnifedcfkpohaaDoorLxh
set_option linter.unusedSimpArgs false
set_option linter.unusedVariables false
namespace Go.Proofs.YtbnifedcfkpohaaDoor
namespace Lx

/-- A fault lies within the source. -/
theorem tok_off {s : List UInt8} {e : Int} {o : Nat} (hs : s.length ≠ 0) (h : tok s = .bad e o) : o < s.length := by
  unfold tok tokK at h
  generalize kd (s.headD 0) = q at h
  by_cases h2 : q = 2
  · rw [if_pos h2] at h
    unfold word wordR at h
    split at h
    · injection h; omega
    · cases h
  · rw [if_neg h2] at h
    by_cases h3 : q = 3
    · rw [if_pos h3] at h
      unfold number numR at h
      have hp : ∀ j, 0 < run an (s.drop j) → j < s.length := by
        intro j hj
        have := run_le an (s.drop j)
        rw [List.length_drop] at this; omega
      split at h
      · split at h
        · injection h; omega
        · split at h
          · rename_i h4; injection h; have := hp _ h4; omega
          · cases h
      · split at h
        · injection h; omega
        · split at h
          · rename_i h4; injection h; have := hp _ h4; omega
          · cases h
    · rw [if_neg h3] at h
      by_cases h4 : q = 4
      · rw [if_pos h4] at h
        unfold text textR at h
        have ht := txt_len false s.tail
        rw [List.length_tail] at ht
        split at h
        · rename_i h5; injection h; have := ht.2.2.2.1 h5; omega
        · split at h
          · injection h; omega
          · split at h
            · injection h; omega
            · cases h
      · rw [if_neg h4] at h
        unfold sign at h
        split at h
        · cases h
        · injection h; omega

theorem seqF_fault : ∀ (g p : Nat) (s : List UInt8), ∀ x ∈ seqF g p s, x.2.1 ≠ 0 → 0 ≤ x.2.2 ∧ x.2.2 < ((p + s.length : Nat) : Int)
  | 0, _, _, x, h, _ => by simp [seqF] at h
  | g + 1, p, s, x, h, h0 => by
    rw [seqF] at h
    have hsk := skip_le false s
    by_cases he : (s.drop (skip false s)).length = 0
    · rw [if_pos he] at h; cases h
    · rw [if_neg he] at h
      cases ht : tok (s.drop (skip false s)) with
      | bad e o =>
        rw [ht] at h
        have ho := tok_off he ht
        rw [List.length_drop] at ho he
        have h : x ∈ [((zeroT, e, ((p + skip false s + o : Nat) : Int)) : Q)] := h
        rw [List.mem_singleton] at h
        subst h
        exact ⟨by show (0 : Int) ≤ ((p + skip false s + o : Nat) : Int); omega, by show ((p + skip false s + o : Nat) : Int) < _; omega⟩
      | tok k y v len =>
        rw [ht] at h
        have hl := tok_len he ht
        rw [List.length_drop] at hl he
        have h : x ∈ ((⟨k, y, v, ((p + skip false s : Nat) : Int)⟩, 0, 0) : Q) :: seqF g (p + skip false s + len) ((s.drop (skip false s)).drop len) := h
        rcases List.mem_cons.1 h with rfl | h
        · exact absurd rfl h0
        · have := seqF_fault g _ _ x h h0
          rw [List.length_drop, List.length_drop] at this
          exact ⟨this.1, by omega⟩

theorem resOf_fault : ∀ (q : List Q), (resOf q).2.1 ≠ 0 → (resOf q).1 = [] ∧ ∃ x ∈ q, x.2.1 ≠ 0 ∧ x.2.2 = (resOf q).2.2
  | [], h => absurd rfl h
  | (t, e, a) :: q, h => by
    rw [resOf] at h ⊢
    by_cases he : e = 0
    · rw [if_pos he] at h ⊢
      by_cases h3 : (resOf q).2.1 = 0
      · rw [if_pos h3] at h; exact absurd rfl h
      · rw [if_neg h3]
        obtain ⟨h1, x, h4, h5⟩ := resOf_fault q h3
        exact ⟨h1, x, List.mem_cons_of_mem _ h4, h5⟩
    · rw [if_neg he]
      exact ⟨rfl, (t, e, a), List.mem_cons_self, he, rfl⟩

theorem lex_fault {l : List UInt8} (hl : l.length ≤ 20000) (h : (lex l).2.1 ≠ 0) : (lex l).1 = [] ∧ 0 ≤ (lex l).2.2 ∧ (lex l).2.2 < (l.length : Int) := by
  have e : lex l = resOf (seq l) := by unfold lex; rw [if_neg (by omega)]
  rw [e] at h ⊢
  obtain ⟨h1, x, h2, h3, h4⟩ := resOf_fault _ h
  have := seqF_fault _ _ _ x h2 h3
  rw [Nat.zero_add, h4] at this
  exact ⟨h1, this⟩

/-- Places ascend, within the source. -/
def Asc (l : List UInt8) (Q0 : List Q) : Prop := (∀ q ∈ Q0, ∃ P : Nat, q.1.pos = (P : Int) ∧ P < l.length) ∧ ∀ (i : Nat) (a b : Q), Q0[i]? = some a → Q0[i + 1]? = some b → a.1.pos < b.1.pos
theorem Asc.tail {l : List UInt8} {q : Q} {r : List Q} (h : Asc l (q :: r)) : Asc l r :=
  ⟨fun x hx => h.1 x (List.mem_cons_of_mem _ hx), fun i a b ha hb => h.2 (i + 1) a b (by rw [List.getElem?_cons_succ]; exact ha) (by rw [List.getElem?_cons_succ]; exact hb)⟩

theorem seqF_asc : ∀ (g p : Nat) (s : List UInt8) (Q0 : List Q), seqF g p s = Q0 → (∀ x ∈ Q0, x.2 = (0, 0)) → (∀ q ∈ Q0, ∃ P : Nat, q.1.pos = (P : Int) ∧ p ≤ P ∧ P < p + s.length) ∧ ∀ (i : Nat) (a b : Q), Q0[i]? = some a → Q0[i + 1]? = some b → a.1.pos < b.1.pos
  | g, p, s, [], _, _ => ⟨fun q h => (by cases h), fun i a b h => (by simp at h)⟩
  | 0, p, s, q :: r, h, _ => by cases h
  | g + 1, p, s, q :: r, h, hz => by
    obtain ⟨k, x, v, len, ht, rfl, hr, hl0, hle⟩ := seqF_pos h (by rw [h]; exact hz)
    obtain ⟨i1, i2⟩ := seqF_asc g _ _ r hr.symm (fun y hy => hz y (List.mem_cons_of_mem _ hy))
    rw [List.length_drop, List.length_drop] at i1
    refine ⟨fun q hq => ?_, fun i a b ha hb => ?_⟩
    · rcases List.mem_cons.1 hq with rfl | hq
      · exact ⟨p + skip false s, rfl, by omega, by omega⟩
      · obtain ⟨P, h1, h2, h3⟩ := i1 q hq
        exact ⟨P, h1, by omega, by omega⟩
    · cases i with
      | zero =>
        obtain rfl : _ = a := by simpa using ha
        rw [List.getElem?_cons_succ] at hb
        obtain ⟨P, h1, h2, h3⟩ := i1 b (List.mem_of_getElem? hb)
        rw [h1]
        show ((p + skip false s : Nat) : Int) < (P : Int)
        omega
      | succ i =>
        rw [List.getElem?_cons_succ] at ha hb
        exact i2 i a b ha hb

theorem Tx_ge (l : List UInt8) : ∀ (bl : List (List UInt8)) (Q0 : List Q), Q0.length ≤ (Tx l bl Q0).length
  | _, [] => by simp
  | bl, q :: r => by
    rw [Tx, List.length_append, List.length_cons, List.length_cons]
    have := Tx_ge l bl.tail r
    omega

theorem Tx_len (l : List UInt8) : ∀ (bl : List (List UInt8)) (Q0 : List Q), (∀ b ∈ bl, b.length ≤ 5) → Asc l Q0 → (Tx l bl Q0).length ≤ (l.length - (match Q0 with | [] => l.length | q :: _ => q.1.pos.toNat)) + 6 * Q0.length
  | _, [], _, _ => by simp [Tx]
  | bl, q :: r, hb, ha => by
    have IH := Tx_len l bl.tail r (fun b h => hb b (List.mem_of_mem_tail h)) ha.tail
    obtain ⟨P, hP, hPl⟩ := ha.1 q (by simp)
    have h1 : (bl.headD []).length ≤ 5 := by
      cases bl with
      | nil => simp
      | cons b bl => exact hb b (by simp)
    have h2 : (chunk l q r).length ≤ endOf l r - P := by
      unfold chunk
      rw [hP, Int.toNat_natCast, List.length_take]; omega
    rw [Tx, List.length_append, List.length_append, List.length_cons, List.length_cons]
    show _ ≤ l.length - q.1.pos.toNat + _
    rw [hP, Int.toNat_natCast]
    cases r with
    | nil =>
      have h3 : endOf l [] = l.length := rfl
      simp only [Tx, List.length_nil] at IH ⊢
      omega
    | cons q2 r2 =>
      obtain ⟨P2, hP2, hPl2⟩ := ha.1 q2 (by simp)
      have h4 := ha.2 0 q q2 rfl rfl
      rw [hP, hP2] at h4
      have h3 : endOf l (q2 :: r2) = P2 := by show q2.1.pos.toNat = P2; rw [hP2, Int.toNat_natCast]
      have IH' : (Tx l bl.tail (q2 :: r2)).length ≤ l.length - q2.1.pos.toNat + 6 * (q2 :: r2).length := IH
      rw [hP2, Int.toNat_natCast] at IH'
      omega

/-- LexerBlanks, in plain words. -/
theorem lex_tx {l : List UInt8} (hl : l.length ≤ 1000) (h : (lex l).2.1 = 0) {bl : List (List UInt8)} (hb : ∀ b ∈ bl, Closed b) (hb5 : ∀ b ∈ bl, b.length ≤ 5) (s : ByteArray) (hs : s.data.toList = Tx l bl (seq l)) :
    lexesV s (lex l).1 = true := by
  obtain ⟨hg, he⟩ := lex_ok h (by omega)
  obtain ⟨ha1, ha2⟩ := seqF_asc (l.length + 1) 0 l (seq l) rfl hg
  have hasc : Asc l (seq l) := ⟨fun q hq => by obtain ⟨P, h1, _, h3⟩ := ha1 q hq; exact ⟨P, h1, by omega⟩, ha2⟩
  have hlen := Tx_len l bl (seq l) hb5 hasc
  have hge := Tx_ge l bl (seq l)
  have hsl := seqF_len (l.length + 1) 0 l
  have hsl' : (seq l).length ≤ l.length + 1 := hsl
  have h20 : (Tx l bl (seq l)).length ≤ 20000 := by
    have : l.length - (match seq l with | [] => l.length | q :: _ => q.1.pos.toNat) ≤ l.length := Nat.sub_le _ _
    omega
  obtain ⟨i1, i2⟩ := seqF_tx l (l.length + 1) 0 (seq l) (Nat.zero_le _) rfl hg (by omega) bl hb ((Tx l bl (seq l)).length + 1) 0 (by omega)
  have hseq : seq (Tx l bl (seq l)) = seqF ((Tx l bl (seq l)).length + 1) 0 (Tx l bl (seq l)) := rfl
  rw [← hseq] at i1 i2
  have hgood : ∀ x ∈ seq (Tx l bl (seq l)), x.2 = (0, 0) := fun x hx => by
    obtain ⟨i, hi, e⟩ := List.getElem_of_mem hx
    exact (i2 i x (seq l)[i] (by rw [List.getElem?_eq_getElem hi, e]) (List.getElem?_eq_getElem (by omega))).2.2.2.1
  have hlex : lex s.data.toList = ((seq (Tx l bl (seq l))).map (·.1), 0, 0) := by
    rw [hs]; unfold lex; rw [if_neg (by omega)]; exact resOf_good _ hgood
  unfold lexesV
  rw [hlex, he]
  show (((0 : Int) == 0 && (0 : Int) == 0) && allE plainE ((seq (Tx l bl (seq l))).map (·.1)) ((seq l).map (·.1))) = true
  rw [show ((0 : Int) == 0 && (0 : Int) == 0) = true from rfl, Bool.true_and]
  unfold allE
  rw [decide_eq_true (by rw [List.length_map, List.length_map, i1]), Bool.true_and, List.all_eq_true]
  rintro ⟨x, y⟩ hxy
  obtain ⟨i, hi, e⟩ := List.getElem_of_mem hxy
  rw [List.length_zip, List.length_map, List.length_map] at hi
  rw [List.getElem_zip] at e
  injection e with e1 e2
  rw [List.getElem_map] at e1 e2
  have := i2 i _ _ (List.getElem?_eq_getElem (by omega)) (List.getElem?_eq_getElem (show i < (seq l).length by omega))
  unfold plainE
  show (x.kind == y.kind && (decide (x.text = y.text) && x.n == y.n)) = true
  rw [← e1, ← e2, this.1, this.2.1, this.2.2.1]
  simp

end Lx
end Go.Proofs.YtbnifedcfkpohaaDoor
