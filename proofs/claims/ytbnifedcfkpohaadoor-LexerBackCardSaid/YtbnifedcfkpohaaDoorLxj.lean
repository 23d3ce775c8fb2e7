/- Plain: blanks more between tokens change places alone. No program is named here. -/
import Derived.Test.YtbnifedcfkpohaaDoorLxg
set_option linter.unusedSimpArgs false
set_option linter.unusedVariables false
namespace Go.Proofs.YtbnifedcfkpohaaDoor
namespace Lx

/-- A token is cut the same, whatever follows, if more than the token stands there, or a line ends behind it. -/
theorem run_app {f : UInt8 → Bool} : ∀ (u r : List UInt8), (run f u < u.length ∨ ∀ c t, r = c :: t → f c = false) → run f (u ++ r) = run f u
  | [], r, h => by
    cases r with
    | nil => rfl
    | cons c t =>
      have := h.resolve_left (by simp) c t rfl
      show run f (c :: t) = 0
      rw [run, if_neg (by rw [this]; decide)]
  | c :: u, r, h => by
    rw [List.cons_append, run, run]
    by_cases hc : f c = true
    · rw [if_pos hc, if_pos hc]
      rw [run_app u r (by
        rcases h with h | h
        · rw [run, if_pos hc] at h; simp at h; exact .inl h
        · exact .inr h)]
    · rw [if_neg hc, if_neg hc]

theorem take_app {u r : List UInt8} {k : Nat} (h : k ≤ u.length) : (u ++ r).take k = u.take k := List.take_append_of_le_length h
theorem drop_app {u r : List UInt8} {k : Nat} (h : k ≤ u.length) : (u ++ r).drop k = u.drop k ++ r := List.drop_append_of_le_length h
theorem headD_app {u r : List UInt8} (h : 0 < u.length) : (u ++ r).headD 0 = u.headD 0 := by
  cases u with
  | nil => simp at h
  | cons c u => rfl

theorem word_app {u r : List UInt8} {k : Int} {x : ByteArray} {v : Int} {len : Nat} (h : word u = .tok k x v len) (hr : len < u.length ∨ ∃ t, r = 10 :: t) : word (u ++ r) = .tok k x v len := by
  have hl := run_le an u
  have he : run an u = len := by
    unfold word wordR at h
    rw [take_size _ _ hl] at h
    by_cases h1 : 20 < run an u
    · rw [if_pos h1] at h; cases h
    · rw [if_neg h1] at h; injection h
  have hrun : run an (u ++ r) = run an u := run_app u r (by
    rcases hr with hr | ⟨t, rfl⟩
    · exact .inl (by omega)
    · exact .inr (fun c t' e => by injection e with e1 _; subst e1; rfl))
  unfold word at h ⊢
  rw [hrun, take_app hl]
  exact h

theorem number_app {u r : List UInt8} {k : Int} {x : ByteArray} {v : Int} {len : Nat} (hu : 0 < u.length) (h : number u = .tok k x v len) (hr : len < u.length ∨ ∃ t, r = 10 :: t) : number (u ++ r) = .tok k x v len := by
  have hl := run_le dg u
  unfold number at h ⊢
  have hk : (((u.drop (run dg u)).headD 0).toNat = 114 ∧ run dg u + 1 = len) ∨ (¬ ((u.drop (run dg u)).headD 0).toNat = 114 ∧ run dg u = len) := by
    unfold numR at h
    by_cases hq : ((u.drop (run dg u)).headD 0).toNat = 114
    · rw [if_pos (by simpa using hq)] at h
      split at h
      · cases h
      · split at h
        · cases h
        · injection h; exact .inl ⟨hq, by omega⟩
    · rw [if_neg (by simpa using hq)] at h
      split at h
      · cases h
      · split at h
        · cases h
        · injection h; exact .inr ⟨hq, by omega⟩
  have hlt : ((u.drop (run dg u)).headD 0).toNat = 114 → run dg u < u.length := by
    intro hq
    rcases Nat.lt_or_ge (run dg u) u.length with h | h
    · exact h
    · rw [List.drop_of_length_le h] at hq; simp at hq
  have hrun : run dg (u ++ r) = run dg u := run_app u r (by
    rcases hk with ⟨hq, _⟩ | ⟨_, he⟩
    · exact .inl (hlt hq)
    · rcases hr with hr | ⟨t, rfl⟩
      · exact .inl (by omega)
      · exact .inr (fun c t' e => by injection e with e1 _; subst e1; rfl))
  have hh : ((((u ++ r).drop (run dg u)).headD 0).toNat = 114) ↔ (((u.drop (run dg u)).headD 0).toNat = 114) := by
    rw [drop_app hl]
    rcases Nat.lt_or_ge (run dg u) u.length with h1 | h1
    · rw [headD_app (by rw [List.length_drop]; omega)]
    · rw [List.drop_of_length_le h1, List.nil_append]
      rcases hr with hr | ⟨t, rfl⟩
      · rcases hk with ⟨hq, _⟩ | ⟨_, he⟩
        · have := hlt hq; omega
        · omega
      · simp
  have hw : wrong (u ++ r) (run dg u) = wrong u (run dg u) := by
    unfold wrong; rw [take_app hl, headD_app hu]
  have han : ∀ j, j ≤ u.length → (j < u.length ∨ ∃ t, r = 10 :: t) → ¬ 0 < run an (u.drop j) → ¬ 0 < run an ((u ++ r).drop j) := by
    intro j hj hr hz
    rw [drop_app hj]
    have e : run an (u.drop j) = 0 := by omega
    rw [run_app (u.drop j) r (by
      rcases hr with hr | ⟨t, rfl⟩
      · exact .inl (by rw [e, List.length_drop]; omega)
      · exact .inr (fun c t' e => by injection e with e1 _; subst e1; rfl))]
    exact hz
  rw [hrun]
  unfold numR at h ⊢
  rw [hw, take_app hl]
  rcases hk with ⟨hq, he⟩ | ⟨hq, he⟩
  · rw [if_pos (by simpa using hq)] at h
    rw [if_pos (by rw [decide_eq_true_iff, hh]; exact hq)]
    by_cases h1 : (wrong u (run dg u) || decide (9007199254740992 < val (u.take (run dg u)))) = true
    · rw [if_pos h1] at h; cases h
    · rw [if_neg h1] at h ⊢
      by_cases h2 : 0 < run an (u.drop (run dg u + 1))
      · rw [if_pos h2] at h; cases h
      · rw [if_neg h2] at h
        rw [if_neg (han _ (by have := hlt hq; omega) (by rw [he]; exact hr) h2)]
        exact h
  · rw [if_neg (by simpa using hq)] at h
    rw [if_neg (by rw [decide_eq_true_iff, hh]; exact hq)]
    by_cases h1 : wrong u (run dg u) = true
    · rw [if_pos h1] at h; cases h
    · rw [if_neg h1] at h ⊢
      by_cases h2 : 0 < run an (u.drop (run dg u))
      · rw [if_pos h2] at h; cases h
      · rw [if_neg h2] at h
        rw [if_neg (han _ hl (by rw [he]; exact hr) h2)]
        exact h

theorem txt_app : ∀ (b : Bool) (u r : List UInt8), (txt b u).2.2 = 0 → txt b (u ++ r) = txt b u
  | b, [], r, h => by cases b <;> simp [txt] at h
  | true, c :: u, r, h => by
    rw [List.cons_append]
    rw [txt] at h ⊢
    rw [txt]
    cases hm : meant c with
    | none => rfl
    | some x =>
      rw [hm] at h
      simp only at h ⊢
      rw [txt_app false u r h]
  | false, c :: u, r, h => by
    rw [List.cons_append]
    rw [txt] at h ⊢
    rw [txt]
    by_cases h1 : c.toNat = 92
    · rw [if_pos h1] at h ⊢
      rw [if_pos h1]
      simp only at h ⊢
      rw [txt_app true u r h]
    · rw [if_neg h1] at h ⊢
      rw [if_neg h1]
      by_cases h2 : c.toNat = 34
      · rw [if_pos h2, if_pos h2]
      · rw [if_neg h2] at h ⊢
        rw [if_neg h2]
        by_cases h3 : pr c = true
        · rw [if_pos h3] at h ⊢
          rw [if_pos h3]
          simp only at h ⊢
          rw [txt_app false u r h]
        · rw [if_neg h3, if_neg h3]

theorem text_app {u r : List UInt8} {k : Int} {x : ByteArray} {v : Int} {len : Nat} (hu : 0 < u.length) (h : text u = .tok k x v len) : text (u ++ r) = .tok k x v len := by
  unfold text at h ⊢
  have hc : (txt false u.tail).2.2 = 0 := by
    have h5 := (txt_len false u.tail).2.2.2.2
    unfold textR at h
    by_cases h1 : (txt false u.tail).2.2 = 1
    · rw [if_pos h1] at h; cases h
    · rw [if_neg h1] at h
      by_cases h2 : 1000 < (txt false u.tail).1.length
      · rw [if_pos h2] at h; cases h
      · rw [if_neg h2] at h
        by_cases h3 : (txt false u.tail).2.2 = 2
        · rw [if_pos h3] at h; cases h
        · omega
  have e : (u ++ r).tail = u.tail ++ r := by
    cases u with
    | nil => simp at hu
    | cons c u => rfl
  rw [e, txt_app false u.tail r hc]
  exact h

theorem sw_small : ∀ x ∈ sw, x.size ≤ 2 := by decide +kernel
theorem sw_line : ∀ x ∈ sw, ∀ c ∈ x.data.toList, c ≠ 10 := by decide +kernel

theorem has_app {u r : List UInt8} {x : ByteArray} (hx : x ∈ sw) (hu : 0 < u.length) (hr : 1 < u.length ∨ ∃ t, r = 10 :: t) : has (u ++ r) x = has u x := by
  have hs := sw_small x hx
  have e : x.size = x.data.toList.length := by rw [Array.length_toList]; rfl
  unfold has
  rw [Bool.eq_iff_iff, List.isPrefixOf_iff_prefix, List.isPrefixOf_iff_prefix]
  constructor
  · intro h
    rcases Nat.lt_or_ge u.length x.size with h1 | h1
    · exfalso
      rcases hr with hr | ⟨t, rfl⟩
      · omega
      · obtain ⟨t', ht⟩ := h
        have h2 : x.size = 2 := by omega
        have h3 : u.length = 1 := by omega
        obtain ⟨c, rfl⟩ := List.length_eq_one_iff.1 h3
        obtain ⟨a, b, hab⟩ : ∃ a b, x.data.toList = [a, b] := by
          match hm : x.data.toList, e with
          | [a, b], _ => exact ⟨a, b, rfl⟩
          | [], e => exact absurd (h2.symm.trans e) (by simp)
          | [a], e => exact absurd (h2.symm.trans e) (by simp)
          | _ :: _ :: _ :: _, e => exact absurd (h2.symm.trans e) (by simp)
        rw [hab] at ht
        simp at ht
        have := sw_line x hx b (by rw [hab]; simp)
        exact this ht.2.1
    · exact List.prefix_of_prefix_length_le h (List.prefix_append u r) (by omega)
  · intro h
    exact h.trans (List.prefix_append u r)

theorem find_same {P Q : ByteArray → Bool} : ∀ (l : List ByteArray), (∀ x ∈ l, P x = Q x) → l.find? P = l.find? Q
  | [], _ => rfl
  | x :: l, h => by
    rw [List.find?_cons, List.find?_cons, h x (by simp), find_same l (fun y hy => h y (by simp [hy]))]

theorem sign_app {u r : List UInt8} {k : Int} {x : ByteArray} {v : Int} {len : Nat} (hu : 0 < u.length) (h : sign u = .tok k x v len) (hl : 0 < len) (hr : len < u.length ∨ ∃ t, r = 10 :: t) : sign (u ++ r) = .tok k x v len := by
  unfold sign at h ⊢
  rw [find_same sw (fun y hy => has_app hy hu (hr.imp (fun h => by omega) id))]
  exact h

theorem tok_app {u r : List UInt8} {k : Int} {x : ByteArray} {v : Int} {len : Nat} (hu : 0 < u.length) (h0 : 0 < len) (h : tok u = .tok k x v len) (hr : len < u.length ∨ ∃ t, r = 10 :: t) : tok (u ++ r) = .tok k x v len := by
  unfold tok at h ⊢
  rw [headD_app hu]
  unfold tokK at h ⊢
  by_cases h2 : kd (u.headD 0) = 2
  · rw [if_pos h2] at h ⊢; exact word_app h hr
  · rw [if_neg h2] at h ⊢
    by_cases h3 : kd (u.headD 0) = 3
    · rw [if_pos h3] at h ⊢; exact number_app hu h hr
    · rw [if_neg h3] at h ⊢
      by_cases h4 : kd (u.headD 0) = 4
      · rw [if_pos h4] at h ⊢; exact text_app hu h
      · rw [if_neg h4] at h ⊢; exact sign_app hu h h0 hr

/-- Blanks cut off, and a line's end behind them. -/
theorem skip_line_end : ∀ (b : Bool) (s t : List UInt8), skip b (s.take (skip b s) ++ 10 :: t) = skip b s + 1 + skip false t
  | true, [], t => by show skip (nl 10) t + 1 = _; rw [show nl 10 = false from rfl]; simp [skip]; omega
  | false, [], t => by show (if kd 10 = 1 then skip false t + 1 else _) = _; rw [if_pos (by decide)]; simp [skip]; omega
  | true, c :: s, t => by
    rw [skip, List.take_succ_cons, List.cons_append, skip, skip_line_end (nl c) s t]; omega
  | false, c :: s, t => by
    rw [skip]
    by_cases h1 : kd c = 1
    · rw [if_pos h1, List.take_succ_cons, List.cons_append, skip, if_pos h1, skip_line_end false s t]; omega
    · rw [if_neg h1]
      by_cases h2 : c.toNat = 47 ∧ (s.headD 0).toNat = 47
      · rw [if_pos h2, List.take_succ_cons, List.cons_append, skip, if_neg h1]
        have hp : 0 < skip true s := by
          cases s with
          | nil => simp at h2
          | cons d s => rw [skip]; omega
        have hl : 0 < (s.take (skip true s)).length := by
          have := skip_le true s
          rw [List.length_take]; omega
        rw [if_pos (by rw [headD_app hl, headD_take s hp]; exact h2), skip_line_end true s t]; omega
      · rw [if_neg h2, List.take_zero, List.nil_append]
        show (if kd 10 = 1 then skip false t + 1 else _) = _
        rw [if_pos (by decide)]; omega

/-- A text that is blanks, whatever follows. -/
def Closed (b : List UInt8) : Prop := ∀ r, skip false (b ++ r) = b.length + skip false r
theorem closed_nil : Closed [] := fun r => by simp
theorem closed_cons {c : UInt8} {b : List UInt8} (hc : kd c = 1) (h : Closed b) : Closed (c :: b) := fun r => by
  rw [List.cons_append, skip, if_pos hc, h r, List.length_cons]; omega
theorem closed_x : Closed [47, 47, 32, 120, 10] := fun r => by
  have e : skip true (47 :: 32 :: 120 :: 10 :: r) = skip false r + 1 + 1 + 1 + 1 := rfl
  show skip false (47 :: 47 :: 32 :: 120 :: 10 :: r) = _
  rw [skip, if_neg (by decide), if_pos ⟨rfl, rfl⟩, e]
  show _ = 5 + skip false r
  omega
theorem closed_y : Closed [32, 47, 47, 10, 32] := closed_cons (by decide) (fun r => by
  have e : skip true (47 :: 10 :: 32 :: r) = skip false (32 :: r) + 1 + 1 := rfl
  have e2 : skip false (32 :: r) = skip false r + 1 := by rw [skip, if_pos (by decide)]
  show skip false (47 :: 47 :: 10 :: 32 :: r) = _
  rw [skip, if_neg (by decide), if_pos ⟨rfl, rfl⟩, e, e2]
  show _ = 4 + skip false r
  omega)

/-- Where the token behind begins, or the source ends. -/
def endOf (l : List UInt8) : List Q → Nat
  | [] => l.length
  | q :: _ => q.1.pos.toNat
def chunk (l : List UInt8) (q : Q) (r : List Q) : List UInt8 := (l.drop q.1.pos.toNat).take (endOf l r - q.1.pos.toNat)
/-- The tokens' pieces, each behind blanks of one's own, a line each. -/
def Tx (l : List UInt8) : List (List UInt8) → List Q → List UInt8
  | _, [] => []
  | bl, q :: r => bl.headD [] ++ chunk l q r ++ 10 :: Tx l bl.tail r

def plainQ (x y : Q) : Prop := x.1.kind = y.1.kind ∧ x.1.text = y.1.text ∧ x.1.n = y.1.n ∧ x.2 = (0, 0) ∧ y.2 = (0, 0)

theorem skip_first {s : List UInt8} (h : skip false s = 0) : ∀ c r, s = c :: r → kd c ≠ 1 ∧ ¬ (c.toNat = 47 ∧ (r.headD 0).toNat = 47) := by
  rintro c r rfl
  rw [skip] at h
  refine ⟨fun h1 => by rw [if_pos h1] at h; omega, fun h2 => ?_⟩
  by_cases h1 : kd c = 1
  · rw [if_pos h1] at h; omega
  · rw [if_neg h1, if_pos h2] at h; omega

/-- Behind a skip no blank stands. -/
theorem skip_skip : ∀ (b : Bool) (s : List UInt8), skip false (s.drop (skip b s)) = 0
  | b, [] => by cases b <;> rfl
  | true, c :: s => by rw [skip, List.drop_succ_cons]; exact skip_skip _ s
  | false, c :: s => by
    rw [skip]
    by_cases h1 : kd c = 1
    · rw [if_pos h1, List.drop_succ_cons]; exact skip_skip false s
    · rw [if_neg h1]
      by_cases h2 : c.toNat = 47 ∧ (s.headD 0).toNat = 47
      · rw [if_pos h2, List.drop_succ_cons]; exact skip_skip true s
      · rw [if_neg h2, List.drop_zero, skip, if_neg h1, if_neg h2]

theorem first_app {u t : List UInt8} {s : List UInt8} {m : Nat} (hs : skip false s = 0) (hu : u = s.take m) (hm : 0 < m) (hl : 0 < s.length) : skip false (u ++ 10 :: t) = 0 := by
  cases s with
  | nil => simp at hl
  | cons c r =>
    obtain ⟨h1, h2⟩ := skip_first hs c r rfl
    obtain ⟨m, rfl⟩ : ∃ k, m = k + 1 := ⟨m - 1, by omega⟩
    subst hu
    rw [List.take_succ_cons, List.cons_append, skip, if_neg h1, if_neg]
    rintro ⟨h3, h4⟩
    rcases Nat.eq_zero_or_pos (r.take m).length with e | e
    · rw [List.eq_nil_of_length_eq_zero e] at h4; simp at h4
    · rw [headD_app e] at h4
      have hm : 0 < m := by rcases Nat.eq_zero_or_pos m with rfl | h; · simp at e
                            · exact h
      rw [headD_take r hm] at h4
      exact h2 ⟨h3, h4⟩

/-- The places that a good sequence has. -/
theorem seqF_pos {g p : Nat} {s : List UInt8} {q : Q} {r : List Q} (h : seqF (g + 1) p s = q :: r) (hg : ∀ x ∈ seqF (g + 1) p s, x.2 = (0, 0)) :
    ∃ k x v len, tok (s.drop (skip false s)) = .tok k x v len ∧ q = (⟨k, x, v, ((p + skip false s : Nat) : Int)⟩, 0, 0) ∧ r = seqF g (p + skip false s + len) ((s.drop (skip false s)).drop len) ∧ 0 < len ∧ skip false s + len ≤ s.length := by
  rw [seqF] at h hg
  by_cases he : (s.drop (skip false s)).length = 0
  · rw [if_pos he] at h; cases h
  · rw [if_neg he] at h hg
    cases ht : tok (s.drop (skip false s)) with
    | bad e o =>
      have hb := tok_bad ht
      have := hg (zeroT, e, ((p + skip false s + o : Nat) : Int)) (by rw [ht]; simp)
      injection this with h1 _
      exact absurd h1 hb
    | tok k x v len =>
      rw [ht] at h
      have h : (((⟨k, x, v, ((p + skip false s : Nat) : Int)⟩, 0, 0) : Q) :: seqF g (p + skip false s + len) ((s.drop (skip false s)).drop len)) = q :: r := h
      injection h with h1 h2
      have hlen := tok_len he ht
      rw [List.length_drop] at hlen he
      exact ⟨k, x, v, len, rfl, h1.symm, h2.symm, hlen.1, by omega⟩

/-- Told anew from the pieces: the same tokens, but for places. -/
theorem seqF_tx (l : List UInt8) : ∀ (g p : Nat) (Q0 : List Q), p ≤ l.length → seqF g p (l.drop p) = Q0 → (∀ x ∈ Q0, x.2 = (0, 0)) → l.length < g + p →
    ∀ (bl : List (List UInt8)), (∀ b ∈ bl, Closed b) → ∀ (g' p' : Nat), Q0.length < g' → (seqF g' p' (Tx l bl Q0)).length = Q0.length ∧ ∀ (i : Nat) (a b : Q), (seqF g' p' (Tx l bl Q0))[i]? = some a → Q0[i]? = some b → plainQ a b
  | g, p, [], _, _, _, _, bl, _, g', p', hg' => by
    obtain ⟨g', rfl⟩ : ∃ n, g' = n + 1 := ⟨g' - 1, by simp at hg'; omega⟩
    have : seqF (g' + 1) p' (Tx l bl []) = [] := by rw [Tx, seqF, if_pos (by simp)]
    rw [this]
    exact ⟨rfl, fun i a b h => by simp at h⟩
  | 0, p, q :: r, _, h, _, _, _, _, _, _, _ => by cases h
  | g + 1, p, q :: r, hp, h, hz, hgp, bl, hbl, g', p', hg' => by
    obtain ⟨k, x, v, len, ht, rfl, hr, hl0, hle⟩ := seqF_pos h (by rw [h]; exact hz)
    rw [List.length_drop] at hle
    have hsk := skip_le false (l.drop p)
    rw [List.drop_drop] at ht hr
    rw [List.drop_drop, ← Nat.add_assoc] at hr
    obtain ⟨P, hP⟩ : ∃ P, p + skip false (l.drop p) = P := ⟨_, rfl⟩
    rw [hP] at ht hr ⊢
    have hPl : P + len ≤ l.length := by omega
    have IH := seqF_tx l g (P + len) r hPl hr.symm (fun y hy => hz y (by simp [hy])) (by omega)
    have hs0 : skip false (l.drop P) = 0 := by
      have := skip_skip false (l.drop p)
      rw [List.drop_drop, hP] at this; exact this
    obtain ⟨k2, hk2⟩ : ∃ k2, skip false (l.drop (P + len)) = k2 := ⟨_, rfl⟩
    have hk2l : P + len + k2 ≤ l.length := by
      have := skip_le false (l.drop (P + len))
      rw [hk2, List.length_drop] at this; omega
    have hend : endOf l r = P + len + k2 := by
      cases r with
      | nil =>
        show l.length = _
        cases g with
        | zero => omega
        | succ g =>
          rw [seqF] at hr
          by_cases he : ((l.drop (P + len)).drop (skip false (l.drop (P + len)))).length = 0
          · rw [hk2, List.drop_drop, List.length_drop] at he; omega
          · rw [if_neg he] at hr
            cases ht2 : tok ((l.drop (P + len)).drop (skip false (l.drop (P + len)))) with
            | bad e o => rw [ht2] at hr; cases hr
            | tok _ _ _ _ => rw [ht2] at hr; cases hr
      | cons q2 r2 =>
        cases g with
        | zero => cases hr
        | succ g =>
          obtain ⟨_, _, _, _, _, e, _, _, _⟩ := seqF_pos hr.symm (by rw [← hr]; exact fun y hy => hz y (by simp [hy]))
          show q2.1.pos.toNat = _
          rw [e, hk2]
          exact Int.toNat_natCast _
    have hch : chunk l (⟨k, x, v, (P : Int)⟩, 0, 0) r = (l.drop P).take (len + k2) := by
      unfold chunk
      rw [hend]
      show (l.drop ((P : Int)).toNat).take (P + len + k2 - ((P : Int)).toNat) = _
      rw [Int.toNat_natCast, show P + len + k2 - P = len + k2 by omega]
    have htx : Tx l bl ((⟨k, x, v, (P : Int)⟩, 0, 0) :: r) = bl.headD [] ++ ((l.drop P).take (len + k2) ++ 10 :: Tx l bl.tail r) := by
      rw [Tx, hch, List.append_assoc]
    have hbc : Closed (bl.headD []) := by
      cases bl with
      | nil => exact closed_nil
      | cons b bl => exact hbl b (by simp)
    have hsT : skip false (Tx l bl ((⟨k, x, v, (P : Int)⟩, 0, 0) :: r)) = (bl.headD []).length := by
      rw [htx, hbc, first_app hs0 rfl (by omega) (by rw [List.length_drop]; omega)]; rfl
    have hdT : (Tx l bl ((⟨k, x, v, (P : Int)⟩, 0, 0) :: r)).drop (bl.headD []).length = (l.drop P).take (len + k2) ++ 10 :: Tx l bl.tail r := by
      rw [htx, List.drop_left]
    have hul : ((l.drop P).take (len + k2)).length = len + k2 := by rw [List.length_take, List.length_drop]; omega
    have htk : tok ((l.drop P).take (len + k2) ++ 10 :: Tx l bl.tail r) = .tok k x v len :=
      tok_app (by omega) hl0 (tok_take hl0 ht (by omega)) (.inr ⟨_, rfl⟩)
    obtain ⟨g'', rfl⟩ : ∃ n, g' = n + 1 := ⟨g' - 1, by omega⟩
    have hrest : ((l.drop P).take (len + k2) ++ 10 :: Tx l bl.tail r).drop len = (l.drop (P + len)).take k2 ++ 10 :: Tx l bl.tail r := by
      rw [drop_app (by omega), List.drop_take, List.drop_drop, Nat.add_sub_cancel_left]
    have hstep : seqF (g'' + 1) p' (Tx l bl ((⟨k, x, v, (P : Int)⟩, 0, 0) :: r)) = (⟨k, x, v, ((p' + (bl.headD []).length : Nat) : Int)⟩, 0, 0) :: seqF g'' (p' + (bl.headD []).length + len) ((l.drop (P + len)).take k2 ++ 10 :: Tx l bl.tail r) := by
      rw [seqF, hsT, hdT, if_neg (by rw [List.length_append, hul]; omega), htk]
      show _ :: seqF g'' _ (((l.drop P).take (len + k2) ++ 10 :: Tx l bl.tail r).drop len) = _
      rw [hrest]
    have hblank : ∀ n pp, ∃ pp', seqF n pp ((l.drop (P + len)).take k2 ++ 10 :: Tx l bl.tail r) = seqF n pp' (Tx l bl.tail r) := by
      intro n pp
      refine ⟨pp + (k2 + 1), ?_⟩
      have hsk2 := skip_line_end false (l.drop (P + len)) (Tx l bl.tail r)
      rw [hk2] at hsk2
      cases n with
      | zero => rfl
      | succ n =>
        have hd : ((l.drop (P + len)).take k2 ++ 10 :: Tx l bl.tail r).drop (k2 + 1 + skip false (Tx l bl.tail r)) = (Tx l bl.tail r).drop (skip false (Tx l bl.tail r)) := by
          have hkl : ((l.drop (P + len)).take k2).length = k2 := by rw [List.length_take, List.length_drop]; omega
          rw [← List.drop_drop, ← List.drop_drop]
          congr 1
          have : ((l.drop (P + len)).take k2 ++ 10 :: Tx l bl.tail r).drop k2 = 10 :: Tx l bl.tail r := by
            exact List.drop_left' hkl
          rw [this]; rfl
        rw [seqF, seqF, hsk2, hd]
        rw [show pp + (k2 + 1 + skip false (Tx l bl.tail r)) = pp + (k2 + 1) + skip false (Tx l bl.tail r) by omega]
    obtain ⟨pp', hpp⟩ := hblank g'' (p' + (bl.headD []).length + len)
    rw [hpp] at hstep
    obtain ⟨i1, i2⟩ := IH bl.tail (fun b hb => hbl b (List.mem_of_mem_tail hb)) g'' pp' (by simp at hg'; omega)
    rw [hstep]
    refine ⟨by rw [List.length_cons, List.length_cons, i1], fun i a b ha hb => ?_⟩
    cases i with
    | zero =>
      obtain rfl : _ = a := by simpa using ha
      obtain rfl : _ = b := by simpa using hb
      exact ⟨rfl, rfl, rfl, rfl, rfl⟩
    | succ i =>
      rw [List.getElem?_cons_succ] at ha hb
      exact i2 i a b ha hb

end Lx
end Go.Proofs.YtbnifedcfkpohaaDoor
