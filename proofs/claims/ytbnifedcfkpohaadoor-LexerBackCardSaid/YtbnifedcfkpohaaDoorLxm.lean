/- Plain: what LexerBack says. No program is named here. -/
import Derived.Test.YtbnifedcfkpohaaDoorLxk
import Derived.Test.YtbnifedcfkpohaaDoorLxe
set_option linter.unusedSimpArgs false
set_option linter.unusedVariables false
namespace Go.Proofs.YtbnifedcfkpohaaDoor
namespace Lx

theorem word_appS {u r : List UInt8} {k : Int} {x : ByteArray} {v : Int} {len : Nat} (h : word u = .tok k x v len) (hr : len < u.length ∨ ∃ t, r = 32 :: t) : word (u ++ r) = .tok k x v len := by
  have hl := run_le an u
  have he : run an u = len := by
    unfold word wordR at h
    rw [take_size _ _ hl] at h
    by_cases h1 : 20 < run an u
    · rw [if_pos h1] at h; cases h
    · rw [if_neg h1] at h; injection h
  have hrun : run an (u ++ r) = run an u := run_app u r (by
    rcases hr with hr | ⟨t, rfl⟩
    · exact .inl (by omega)
    · exact .inr (fun c t' e => by injection e with e1 _; subst e1; rfl))
  unfold word at h ⊢
  rw [hrun, take_app hl]
  exact h

theorem number_appS {u r : List UInt8} {k : Int} {x : ByteArray} {v : Int} {len : Nat} (hu : 0 < u.length) (h : number u = .tok k x v len) (hr : len < u.length ∨ ∃ t, r = 32 :: t) : number (u ++ r) = .tok k x v len := by
  have hl := run_le dg u
  unfold number at h ⊢
  have hk : (((u.drop (run dg u)).headD 0).toNat = 114 ∧ run dg u + 1 = len) ∨ (¬ ((u.drop (run dg u)).headD 0).toNat = 114 ∧ run dg u = len) := by
    unfold numR at h
    by_cases hq : ((u.drop (run dg u)).headD 0).toNat = 114
    · rw [if_pos (by simpa using hq)] at h
      split at h
      · cases h
      · split at h
        · cases h
        · injection h; exact .inl ⟨hq, by omega⟩
    · rw [if_neg (by simpa using hq)] at h
      split at h
      · cases h
      · split at h
        · cases h
        · injection h; exact .inr ⟨hq, by omega⟩
  have hlt : ((u.drop (run dg u)).headD 0).toNat = 114 → run dg u < u.length := by
    intro hq
    rcases Nat.lt_or_ge (run dg u) u.length with h | h
    · exact h
    · rw [List.drop_of_length_le h] at hq; simp at hq
  have hrun : run dg (u ++ r) = run dg u := run_app u r (by
    rcases hk with ⟨hq, _⟩ | ⟨_, he⟩
    · exact .inl (hlt hq)
    · rcases hr with hr | ⟨t, rfl⟩
      · exact .inl (by omega)
      · exact .inr (fun c t' e => by injection e with e1 _; subst e1; rfl))
  have hh : ((((u ++ r).drop (run dg u)).headD 0).toNat = 114) ↔ (((u.drop (run dg u)).headD 0).toNat = 114) := by
    rw [drop_app hl]
    rcases Nat.lt_or_ge (run dg u) u.length with h1 | h1
    · rw [headD_app (by rw [List.length_drop]; omega)]
    · rw [List.drop_of_length_le h1, List.nil_append]
      rcases hr with hr | ⟨t, rfl⟩
      · rcases hk with ⟨hq, _⟩ | ⟨_, he⟩
        · have := hlt hq; omega
        · omega
      · simp
  have hw : wrong (u ++ r) (run dg u) = wrong u (run dg u) := by
    unfold wrong; rw [take_app hl, headD_app hu]
  have han : ∀ j, j ≤ u.length → (j < u.length ∨ ∃ t, r = 32 :: t) → ¬ 0 < run an (u.drop j) → ¬ 0 < run an ((u ++ r).drop j) := by
    intro j hj hr hz
    rw [drop_app hj]
    have e : run an (u.drop j) = 0 := by omega
    rw [run_app (u.drop j) r (by
      rcases hr with hr | ⟨t, rfl⟩
      · exact .inl (by rw [e, List.length_drop]; omega)
      · exact .inr (fun c t' e => by injection e with e1 _; subst e1; rfl))]
    exact hz
  rw [hrun]
  unfold numR at h ⊢
  rw [hw, take_app hl]
  rcases hk with ⟨hq, he⟩ | ⟨hq, he⟩
  · rw [if_pos (by simpa using hq)] at h
    rw [if_pos (by rw [decide_eq_true_iff, hh]; exact hq)]
    by_cases h1 : (wrong u (run dg u) || decide (9007199254740992 < val (u.take (run dg u)))) = true
    · rw [if_pos h1] at h; cases h
    · rw [if_neg h1] at h ⊢
      by_cases h2 : 0 < run an (u.drop (run dg u + 1))
      · rw [if_pos h2] at h; cases h
      · rw [if_neg h2] at h
        rw [if_neg (han _ (by have := hlt hq; omega) (by rw [he]; exact hr) h2)]
        exact h
  · rw [if_neg (by simpa using hq)] at h
    rw [if_neg (by rw [decide_eq_true_iff, hh]; exact hq)]
    by_cases h1 : wrong u (run dg u) = true
    · rw [if_pos h1] at h; cases h
    · rw [if_neg h1] at h ⊢
      by_cases h2 : 0 < run an (u.drop (run dg u))
      · rw [if_pos h2] at h; cases h
      · rw [if_neg h2] at h
        rw [if_neg (han _ hl (by rw [he]; exact hr) h2)]
        exact h

theorem sw_lineS : ∀ x ∈ sw, ∀ c ∈ x.data.toList, c ≠ 32 := by decide +kernel

theorem has_appS {u r : List UInt8} {x : ByteArray} (hx : x ∈ sw) (hu : 0 < u.length) (hr : 1 < u.length ∨ ∃ t, r = 32 :: t) : has (u ++ r) x = has u x := by
  have hs := sw_small x hx
  have e : x.size = x.data.toList.length := by rw [Array.length_toList]; rfl
  unfold has
  rw [Bool.eq_iff_iff, List.isPrefixOf_iff_prefix, List.isPrefixOf_iff_prefix]
  constructor
  · intro h
    rcases Nat.lt_or_ge u.length x.size with h1 | h1
    · exfalso
      rcases hr with hr | ⟨t, rfl⟩
      · omega
      · obtain ⟨t', ht⟩ := h
        have h2 : x.size = 2 := by omega
        have h3 : u.length = 1 := by omega
        obtain ⟨c, rfl⟩ := List.length_eq_one_iff.1 h3
        obtain ⟨a, b, hab⟩ : ∃ a b, x.data.toList = [a, b] := by
          match hm : x.data.toList, e with
          | [a, b], _ => exact ⟨a, b, rfl⟩
          | [], e => exact absurd (h2.symm.trans e) (by simp)
          | [a], e => exact absurd (h2.symm.trans e) (by simp)
          | _ :: _ :: _ :: _, e => exact absurd (h2.symm.trans e) (by simp)
        rw [hab] at ht
        simp at ht
        have := sw_lineS x hx b (by rw [hab]; simp)
        exact this ht.2.1
    · exact List.prefix_of_prefix_length_le h (List.prefix_append u r) (by omega)
  · intro h
    exact h.trans (List.prefix_append u r)

theorem sign_appS {u r : List UInt8} {k : Int} {x : ByteArray} {v : Int} {len : Nat} (hu : 0 < u.length) (h : sign u = .tok k x v len) (hl : 0 < len) (hr : len < u.length ∨ ∃ t, r = 32 :: t) : sign (u ++ r) = .tok k x v len := by
  unfold sign at h ⊢
  rw [find_same sw (fun y hy => has_appS hy hu (hr.imp (fun h => by omega) id))]
  exact h

theorem tok_appS {u r : List UInt8} {k : Int} {x : ByteArray} {v : Int} {len : Nat} (hu : 0 < u.length) (h0 : 0 < len) (h : tok u = .tok k x v len) (hr : len < u.length ∨ ∃ t, r = 32 :: t) : tok (u ++ r) = .tok k x v len := by
  unfold tok at h ⊢
  rw [headD_app hu]
  unfold tokK at h ⊢
  by_cases h2 : kd (u.headD 0) = 2
  · rw [if_pos h2] at h ⊢; exact word_appS h hr
  · rw [if_neg h2] at h ⊢
    by_cases h3 : kd (u.headD 0) = 3
    · rw [if_pos h3] at h ⊢; exact number_appS hu h hr
    · rw [if_neg h3] at h ⊢
      by_cases h4 : kd (u.headD 0) = 4
      · rw [if_pos h4] at h ⊢; exact text_app hu h
      · rw [if_neg h4] at h ⊢; exact sign_appS hu h h0 hr

/-! ### A spelling is its token, whole -/
theorem dg_of : ∀ d, d < 10 → dg (UInt8.ofNat (48 + d)) = true := by decide
theorem dec_dg (u : Nat) : ∀ c ∈ Lib.decDigits u, dg c = true := by
  induction u using Nat.strongRecOn with
  | _ u ih =>
    intro c hc
    rw [Lib.decDigits] at hc
    by_cases h : u < 10
    · rw [dif_pos h, List.mem_singleton] at hc
      rw [hc]; exact dg_of u h
    · rw [dif_neg h, List.mem_append, List.mem_singleton] at hc
      rcases hc with hc | rfl
      · exact ih _ (by omega) c hc
      · exact dg_of _ (by omega)
theorem run_whole {f : UInt8 → Bool} : ∀ s : List UInt8, (∀ c ∈ s, f c = true) → run f s = s.length
  | [], _ => rfl
  | c :: s, h => by
    rw [run, if_pos (h c (by simp)), run_whole s (fun x hx => h x (by simp [hx]))]; rfl
theorem itoa_dg {n : Int} (h : 0 ≤ n) : ∀ c ∈ Lib.itoa n, dg c = true := by
  unfold Lib.itoa
  rw [if_neg (by omega)]
  exact dec_dg _

theorem txt_spelt : ∀ (L R : List UInt8), (txt false (L.flatMap spelt ++ 34 :: R)).2.2 = 0 → (txt false (L.flatMap spelt ++ 34 :: R)).2.1 = (L.flatMap spelt).length
  | [], R, h => by
    rw [List.flatMap_nil, List.nil_append, txt, if_neg (by decide), if_pos (by decide)]; rfl
  | c :: L, R, h => by
    have IH := txt_spelt L R
    rw [List.flatMap_cons, List.append_assoc] at h ⊢
    rw [List.length_append]
    generalize (L.flatMap spelt).length = n at *
    generalize L.flatMap spelt ++ 34 :: R = r at *
    unfold spelt at h ⊢
    by_cases h1 : c.toNat = 34
    · rw [if_pos h1] at h ⊢
      have e : txt false ([92, 34] ++ r) = (34 :: (txt false r).1, (txt false r).2.1 + 1 + 1, (txt false r).2.2) := rfl
      rw [e] at h ⊢
      have := IH h
      simp only [List.length_cons, List.length_nil]
      omega
    · rw [if_neg h1] at h ⊢
      by_cases h2 : c.toNat = 92
      · rw [if_pos h2] at h ⊢
        have e : txt false ([92, 92] ++ r) = (92 :: (txt false r).1, (txt false r).2.1 + 1 + 1, (txt false r).2.2) := rfl
        rw [e] at h ⊢
        have := IH h
        simp only [List.length_cons, List.length_nil]
        omega
      · rw [if_neg h2] at h ⊢
        by_cases h3 : c.toNat = 10
        · rw [if_pos h3] at h ⊢
          have e : txt false ([92, 110] ++ r) = (10 :: (txt false r).1, (txt false r).2.1 + 1 + 1, (txt false r).2.2) := rfl
          rw [e] at h ⊢
          have := IH h
          simp only [List.length_cons, List.length_nil]
          omega
        · rw [if_neg h3] at h ⊢
          have e : txt false ([c] ++ r) = if pr c then (c :: (txt false r).1, (txt false r).2.1 + 1, (txt false r).2.2) else ([], 0, 1) := by
            show txt false (c :: r) = _
            rw [txt, if_neg h2, if_neg h1]
          rw [e] at h ⊢
          cases hp : pr c with
          | true =>
            rw [hp] at h
            rw [if_pos rfl] at h ⊢
            have := IH h
            simp only [List.length_cons, List.length_nil]
            omega
          | false =>
            rw [hp, if_neg (by decide)] at h
            cases h

/-- What a token's kind tells of its length. -/
theorem tok_kind {s : List UInt8} {k : Int} {x : ByteArray} {v : Int} {len : Nat} (h : tok s = .tok k x v len) :
    (k ≠ 4 ∧ k ≠ 5 ∧ k ≠ 6 ∧ x.size = len) ∨ (k = 4 ∧ 0 ≤ v ∧ len = run dg s) ∨ (k = 5 ∧ 0 ≤ v ∧ len = run dg s + 1) ∨ (k = 6 ∧ (txt false s.tail).2.2 = 0 ∧ len = (txt false s.tail).2.1 + 2) := by
  unfold tok tokK at h
  generalize kd (s.headD 0) = q at h
  by_cases h2 : q = 2
  · rw [if_pos h2] at h
    unfold word wordR at h
    split at h
    · cases h
    · injection h with e1 e2 e3 e4
      refine .inl ⟨?_, ?_, ?_, by rw [← e2]; exact e4⟩ <;> (rw [← e1]; (repeat' split) <;> decide)
  · rw [if_neg h2] at h
    by_cases h3 : q = 3
    · rw [if_pos h3] at h
      unfold number numR at h
      split at h
      · split at h
        · cases h
        · split at h
          · cases h
          · injection h with e1 e2 e3 e4
            exact .inr (.inr (.inl ⟨e1.symm, by omega, e4.symm⟩))
      · split at h
        · cases h
        · split at h
          · cases h
          · injection h with e1 e2 e3 e4
            exact .inr (.inl ⟨e1.symm, by omega, e4.symm⟩)
    · rw [if_neg h3] at h
      by_cases h4 : q = 4
      · rw [if_pos h4] at h
        have h5 := (txt_len false s.tail).2.2.2.2
        unfold text textR at h
        split at h
        · cases h
        · split at h
          · cases h
          · split at h
            · cases h
            · injection h with e1 e2 e3 e4
              exact .inr (.inr (.inr ⟨e1.symm, by omega, e4.symm⟩))
      · rw [if_neg h4] at h
        unfold sign at h
        split at h
        · injection h with e1 e2 e3 e4
          exact .inl ⟨by omega, by omega, by omega, by rw [← e2]; exact e4⟩
        · cases h

theorem isTok_tok {x : T} (h : isTok x = true) : skip false (spl x).data.toList = 0 ∧ tok (spl x).data.toList = .tok x.kind x.text x.n (spl x).data.toList.length ∧ 0 < (spl x).data.toList.length ∧ (spl x).data.toList.length ≤ 20000 := by
  unfold isTok at h
  obtain ⟨S, hS⟩ : ∃ S, (spl x).data.toList = S := ⟨_, rfl⟩
  rw [hS] at h ⊢
  have hl : S.length ≤ 20000 := by
    rcases Nat.lt_or_ge 20000 S.length with hl | hl
    · unfold lex at h; rw [if_pos hl] at h; cases h
    · exact hl
  have hlex : lex S = resOf (seq S) := by unfold lex; rw [if_neg (by omega)]
  have h0 : (lex S).2.1 = 0 := by
    rcases Decidable.em ((lex S).2.1 = 0) with h0 | h0
    · exact h0
    · rw [hlex] at h h0
      rw [(resOf_fault _ h0).1] at h
      cases h
  obtain ⟨hg, hle⟩ := lex_ok h0 hl
  rw [hle] at h
  have h : oneT ((seq S).map (·.1)) x = true := h
  match hq : seq S, h with
  | [], h => cases h
  | _ :: _ :: _, h => cases h
  | [q], h =>
    rw [hq] at hg
    have h : sameT q.1 x.kind x.text x.n 0 = true := h
    unfold sameT at h
    rw [Bool.and_eq_true, Bool.and_eq_true, Bool.and_eq_true, beq_iff_eq, decide_eq_true_iff, beq_iff_eq, beq_iff_eq] at h
    obtain ⟨g1, g2, g3, g4⟩ := h
    obtain ⟨k, y, v, len, ht, rfl, hr, hp, hle2⟩ := seqF_pos (g := S.length) (p := 0) (s := S) (q := q) (r := []) hq (by
      have : seqF (S.length + 1) 0 S = [q] := hq
      rw [this]; exact hg)
    have g1 : k = x.kind := g1
    have g2 : y = x.text := g2
    have g3 : v = x.n := g3
    have g4 : ((0 + skip false S : Nat) : Int) = 0 := g4
    have hs0 : skip false S = 0 := by omega
    rw [hs0, List.drop_zero] at ht
    rw [hs0] at hle2
    subst g1 g2 g3
    have hw : len = S.length := by
      unfold spl at hS
      rcases tok_kind ht with ⟨k4, k5, k6, e⟩ | ⟨k4, hv, e⟩ | ⟨k5, hv, e⟩ | ⟨k6, hz, e⟩
      · rw [if_neg k4, if_neg k5, if_neg k6] at hS
        rw [← hS, ← e, Array.length_toList]; rfl
      · rw [if_pos k4] at hS
        have hS : Lib.itoa x.n = S := hS
        rw [← hS] at e ⊢
        rw [e, run_whole _ (itoa_dg hv)]
      · rw [if_neg (by omega), if_pos k5] at hS
        have hS : Lib.itoa x.n ++ [114] = S := hS
        rw [← hS] at e ⊢
        rw [e, run_app _ _ (.inr (fun c t h => by injection h with h1 _; subst h1; decide)), run_whole _ (itoa_dg hv), List.length_append]; rfl
      · rw [if_neg (by omega), if_neg (by omega), if_pos k6] at hS
        have hS : 34 :: x.text.data.toList.flatMap spelt ++ [34] = S := hS
        rw [← hS] at e hz ⊢
        have hz : (txt false (x.text.data.toList.flatMap spelt ++ 34 :: [])).2.2 = 0 := hz
        have e : len = (txt false (x.text.data.toList.flatMap spelt ++ 34 :: [])).2.1 + 2 := e
        rw [e, txt_spelt _ _ hz]
        simp only [List.length_append, List.length_cons, List.length_nil]
    rw [hw] at ht
    exact ⟨hs0, ht, by omega, hl⟩

/-! ### Joined -/
def tl (r : List T) : List UInt8 := r.flatMap fun y => 32 :: (spl y).data.toList
theorem tl_len : ∀ r : List T, r.length ≤ (tl r).length
  | [] => Nat.zero_le _
  | x :: r => by
    have := tl_len r
    show r.length + 1 ≤ (32 :: (spl x).data.toList ++ tl r).length
    rw [List.length_append, List.length_cons]; omega
theorem tl_head : ∀ r : List T, tl r = [] ∨ ∃ t, tl r = 32 :: t
  | [] => .inl rfl
  | x :: r => .inr ⟨(spl x).data.toList ++ tl r, rfl⟩

theorem allE_cons {f : T → T → Bool} {a b : T} {L M : List T} (h : f a b = true) (h2 : allE f L M = true) : allE f (a :: L) (b :: M) = true := by
  unfold allE at h2 ⊢
  rw [Bool.and_eq_true, decide_eq_true_iff] at h2
  rw [Bool.and_eq_true, decide_eq_true_iff]
  refine ⟨by rw [List.length_cons, List.length_cons, h2.1], ?_⟩
  rw [List.zip_cons_cons, List.all_cons, h2.2, Bool.and_true]
  exact h

theorem spl_app {x : T} (h : isTok x = true) (r : List T) : skip false ((spl x).data.toList ++ tl r) = 0 ∧ tok ((spl x).data.toList ++ tl r) = .tok x.kind x.text x.n (spl x).data.toList.length := by
  obtain ⟨h0, ht, hp, _⟩ := isTok_tok h
  generalize (spl x).data.toList = S at *
  rcases tl_head r with e | ⟨t, e⟩
  · rw [e, List.append_nil]; exact ⟨h0, ht⟩
  · rw [e]
    refine ⟨?_, tok_appS hp hp ht (.inr ⟨_, rfl⟩)⟩
    cases S with
    | nil => simp at hp
    | cons c s =>
      obtain ⟨g1, g2⟩ := skip_first h0 c s rfl
      rw [List.cons_append, skip, if_neg g1, if_neg]
      rintro ⟨g3, g4⟩
      cases s with
      | nil => simp at g4
      | cons d s => exact g2 ⟨g3, g4⟩

theorem plain_self (x : T) (p : Int) : plainE ⟨x.kind, x.text, x.n, p⟩ x = true := by unfold plainE; simp

theorem seq_tl : ∀ (r : List T) (g p : Nat), r.length ≤ g → (∀ x ∈ r, isTok x = true) → (∀ q ∈ seqF g p (tl r), q.2 = (0, 0)) ∧ allE plainE ((seqF g p (tl r)).map (·.1)) r = true
  | [], g, p, _, _ => by
    have : seqF g p (tl []) = [] := by
      cases g with
      | zero => rfl
      | succ g => rw [seqF, if_pos (by simp [tl])]
    rw [this]; exact ⟨fun q h => (by cases h), rfl⟩
  | x :: r, 0, p, h, _ => by simp at h
  | x :: r, g + 1, p, h, hx => by
    obtain ⟨h0, ht⟩ := spl_app (hx x (by simp)) r
    have hp := (isTok_tok (hx x (by simp))).2.2.1
    have e : tl (x :: r) = 32 :: ((spl x).data.toList ++ tl r) := rfl
    have hs : skip false (tl (x :: r)) = 1 := by rw [e, skip, if_pos (by decide), h0]
    have hd : (tl (x :: r)).drop 1 = (spl x).data.toList ++ tl r := by rw [e]; rfl
    obtain ⟨i1, i2⟩ := seq_tl r g (p + 1 + (spl x).data.toList.length) (by simp at h; omega) (fun y hy => hx y (by simp [hy]))
    have hstep : seqF (g + 1) p (tl (x :: r)) = (⟨x.kind, x.text, x.n, ((p + 1 : Nat) : Int)⟩, 0, 0) :: seqF g (p + 1 + (spl x).data.toList.length) (tl r) := by
      rw [seqF, hs, hd, if_neg (by rw [List.length_append]; omega), ht]
      show _ :: seqF g _ (((spl x).data.toList ++ tl r).drop _) = _
      rw [List.drop_left]
    rw [hstep]
    refine ⟨fun q hq => ?_, allE_cons (plain_self x _) i2⟩
    rcases List.mem_cons.1 hq with rfl | hq
    · rfl
    · exact i1 q hq

theorem joined : ∀ (l : List T), (∀ x ∈ l, isTok x = true) → (joinB l).length ≤ 20000 → ∀ s : ByteArray, s.data.toList = joinB l → lexesV s l = true
  | [], _, _, s, hs => by
    unfold lexesV
    rw [hs]; rfl
  | x :: r, hx, hl, s, hs => by
    obtain ⟨h0, ht⟩ := spl_app (hx x (by simp)) r
    have hp := (isTok_tok (hx x (by simp))).2.2.1
    have e : joinB (x :: r) = (spl x).data.toList ++ tl r := rfl
    rw [e] at hl hs
    have hlen := tl_len r
    have hL : (((spl x).data.toList ++ tl r).length) = (spl x).data.toList.length + (tl r).length := List.length_append
    obtain ⟨i1, i2⟩ := seq_tl r ((spl x).data.toList ++ tl r).length (0 + 0 + (spl x).data.toList.length) (by omega) (fun y hy => hx y (by simp [hy]))
    have hstep : seq ((spl x).data.toList ++ tl r) = (⟨x.kind, x.text, x.n, ((0 + 0 : Nat) : Int)⟩, 0, 0) :: seqF ((spl x).data.toList ++ tl r).length (0 + 0 + (spl x).data.toList.length) (tl r) := by
      unfold seq
      rw [seqF, h0, List.drop_zero, if_neg (by omega), ht]
      show _ :: seqF _ _ (((spl x).data.toList ++ tl r).drop _) = _
      rw [List.drop_left]
    have hgood : ∀ q ∈ seq ((spl x).data.toList ++ tl r), q.2 = (0, 0) := by
      intro q hq
      rw [hstep] at hq
      rcases List.mem_cons.1 hq with rfl | hq
      · rfl
      · exact i1 q hq
    have hlex : lex s.data.toList = ((seq ((spl x).data.toList ++ tl r)).map (·.1), 0, 0) := by
      rw [hs]; unfold lex; rw [if_neg (by omega)]; exact resOf_good _ hgood
    unfold lexesV
    rw [hlex, hstep]
    show (((0 : Int) == 0 && (0 : Int) == 0) && allE plainE (_ :: _) (x :: r)) = true
    rw [show ((0 : Int) == 0 && (0 : Int) == 0) = true from rfl, Bool.true_and]
    exact allE_cons (plain_self x _) i2

theorem tok_one {x : T} (h : isTok x = true) : lexesV (spl x) [x] = true := by
  have e : joinB [x] = (spl x).data.toList := by show (spl x).data.toList ++ [] = _; rw [List.append_nil]
  exact joined [x] (fun y hy => by rw [List.mem_singleton] at hy; rw [hy]; exact h) (by rw [e]; exact (isTok_tok h).2.2.2) _ e.symm

end Lx
end Go.Proofs.YtbnifedcfkpohaaDoor
