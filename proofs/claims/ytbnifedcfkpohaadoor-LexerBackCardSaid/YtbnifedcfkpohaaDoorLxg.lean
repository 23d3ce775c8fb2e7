/- Plain: what is cut off ahead of a token's place has the tokens ahead of it. No program is named here. -/
import Derived.Test.YtbnifedcfkpohaaDoorLx6
set_option linter.unusedSimpArgs false
set_option linter.unusedVariables false
namespace Go.Proofs.YtbnifedcfkpohaaDoor
namespace Lx

theorem run_take (f : UInt8 → Bool) : ∀ (s : List UInt8) (m : Nat), run f s ≤ m → run f (s.take m) = run f s
  | [], m, _ => by simp
  | c :: r, 0, h => by
    rw [run] at h
    by_cases hc : f c = true
    · rw [if_pos hc] at h; omega
    · rw [run, if_neg hc]; rfl
  | c :: r, m + 1, h => by
    rw [List.take_succ_cons, run, run]
    rw [run] at h
    by_cases hc : f c = true
    · rw [if_pos hc, if_pos hc]
      rw [if_pos hc] at h
      rw [run_take f r m (by omega)]
    · rw [if_neg hc, if_neg hc]

theorem headD_take (s : List UInt8) {m : Nat} (h : 0 < m) : (s.take m).headD 0 = s.headD 0 := by
  cases s with
  | nil => simp
  | cons c r => cases m with
    | zero => omega
    | succ m => rfl

theorem skip_take : ∀ (b : Bool) (s : List UInt8) (m : Nat), skip b s ≤ m → skip b (s.take m) = skip b s
  | b, [], m, _ => by simp
  | true, c :: r, 0, h => by rw [skip] at h; omega
  | true, c :: r, m + 1, h => by
    rw [List.take_succ_cons, skip, skip]
    rw [skip] at h
    rw [skip_take (nl c) r m (by omega)]
  | false, c :: r, 0, h => by
    have : skip false (c :: r) = 0 := by omega
    rw [this]; rfl
  | false, c :: r, m + 1, h => by
    rw [List.take_succ_cons, skip, skip]
    rw [skip] at h
    by_cases h1 : kd c = 1
    · rw [if_pos h1, if_pos h1]
      rw [if_pos h1] at h
      rw [skip_take false r m (by omega)]
    · rw [if_neg h1, if_neg h1]
      rw [if_neg h1] at h
      by_cases h2 : c.toNat = 47 ∧ (r.headD 0).toNat = 47
      · rw [if_pos h2] at h
        have hm : 0 < m := by
          rcases Nat.eq_zero_or_pos m with rfl | hm
          · exfalso
            cases r with
            | nil => simp at h2
            | cons d r => rw [skip] at h; omega
          · exact hm
        rw [if_pos h2, headD_take r hm, if_pos h2, skip_take true r m (by omega)]
      · rw [if_neg h2]
        rw [if_neg]
        rintro ⟨h3, h4⟩
        rcases Nat.eq_zero_or_pos m with rfl | hm
        · simp at h4
        · rw [headD_take r hm] at h4; exact h2 ⟨h3, h4⟩

theorem txt_take : ∀ (b : Bool) (s : List UInt8) (m : Nat), (txt b s).2.2 = 0 → (txt b s).2.1 + 1 ≤ m → txt b (s.take m) = txt b s
  | b, [], m, h, _ => by cases b <;> simp [txt] at h
  | b, c :: r, 0, _, h => by omega
  | true, c :: r, m + 1, h0, h => by
    rw [List.take_succ_cons]
    rw [txt] at h0 h ⊢
    rw [txt]
    cases hm : meant c with
    | none => rfl
    | some x =>
      rw [hm] at h0 h
      simp only at h0 h ⊢
      rw [txt_take false r m h0 (by omega)]
  | false, c :: r, m + 1, h0, h => by
    rw [List.take_succ_cons]
    rw [txt] at h0 h ⊢
    rw [txt]
    by_cases h1 : c.toNat = 92
    · rw [if_pos h1] at h0 h ⊢
      rw [if_pos h1]
      simp only at h0 h ⊢
      rw [txt_take true r m h0 (by omega)]
    · rw [if_neg h1] at h0 h ⊢
      rw [if_neg h1]
      by_cases h2 : c.toNat = 34
      · rw [if_pos h2, if_pos h2]
      · rw [if_neg h2] at h0 h ⊢
        rw [if_neg h2]
        by_cases h3 : pr c = true
        · rw [if_pos h3] at h0 h ⊢
          rw [if_pos h3]
          simp only at h0 h ⊢
          rw [txt_take false r m h0 (by omega)]
        · rw [if_neg h3, if_neg h3]

theorem take_take' (s : List UInt8) {k m : Nat} (h : k ≤ m) : (s.take m).take k = s.take k := by rw [List.take_take, Nat.min_eq_left h]

theorem word_take {s : List UInt8} {k : Int} {x : ByteArray} {v : Int} {len m : Nat} (h : word s = .tok k x v len) (hm : len ≤ m) : word (s.take m) = .tok k x v len := by
  have hl := run_le an s
  have he : run an s = len := by
    unfold word wordR at h
    rw [take_size _ _ hl] at h
    by_cases h1 : 20 < run an s
    · rw [if_pos h1] at h; cases h
    · rw [if_neg h1] at h; injection h
  unfold word at h ⊢
  rw [run_take an s m (by omega), take_take' s (by omega)]
  exact h

theorem run_drop_zero (f : UInt8 → Bool) {s : List UInt8} {j m : Nat} (h : ¬ 0 < run f (s.drop j)) : ¬ 0 < run f ((s.take m).drop j) := by
  rw [List.drop_take]
  have : run f (s.drop j) = 0 := by omega
  rw [run_take f _ _ (by omega)]
  exact h

theorem number_take {s : List UInt8} {k : Int} {x : ByteArray} {v : Int} {len m : Nat} (h0 : 0 < len) (h : number s = .tok k x v len) (hm : len ≤ m) : number (s.take m) = .tok k x v len := by
  unfold number at h ⊢
  have hk : run dg s ≤ len ∧ (((s.drop (run dg s)).headD 0).toNat = 114 → run dg s + 1 ≤ len) := by
    unfold numR at h
    by_cases hr : ((s.drop (run dg s)).headD 0).toNat = 114
    · rw [if_pos (by simpa using hr)] at h
      split at h
      · cases h
      · split at h
        · cases h
        · injection h; omega
    · rw [if_neg (by simpa using hr)] at h
      split at h
      · cases h
      · split at h
        · cases h
        · injection h; omega
  rw [run_take dg s m (by omega)]
  have hh : decide ((((s.take m).drop (run dg s)).headD 0).toNat = 114) = decide (((s.drop (run dg s)).headD 0).toNat = 114) := by
    rw [List.drop_take]
    by_cases hr : ((s.drop (run dg s)).headD 0).toNat = 114
    · rw [headD_take _ (by have := hk.2 hr; omega)]
    · rw [decide_eq_false hr]
      rcases Nat.eq_zero_or_pos (m - run dg s) with e | e
      · rw [e]; simp
      · rw [headD_take _ e, decide_eq_false hr]
  rw [hh]
  have hw : wrong (s.take m) (run dg s) = wrong s (run dg s) := by
    unfold wrong
    rw [take_take' s (by omega), headD_take s (by omega)]
  unfold numR at h ⊢
  rw [hw, take_take' s (by omega)]
  by_cases hr : decide (((s.drop (run dg s)).headD 0).toNat = 114) = true
  · rw [if_pos hr] at h ⊢
    by_cases h1 : (wrong s (run dg s) || decide (9007199254740992 < val (s.take (run dg s)))) = true
    · rw [if_pos h1] at h; cases h
    · rw [if_neg h1] at h ⊢
      by_cases h2 : 0 < run an (s.drop (run dg s + 1))
      · rw [if_pos h2] at h; cases h
      · rw [if_neg h2] at h
        rw [if_neg (run_drop_zero an h2)]
        exact h
  · rw [if_neg hr] at h ⊢
    by_cases h1 : wrong s (run dg s) = true
    · rw [if_pos h1] at h; cases h
    · rw [if_neg h1] at h ⊢
      by_cases h2 : 0 < run an (s.drop (run dg s))
      · rw [if_pos h2] at h; cases h
      · rw [if_neg h2] at h
        rw [if_neg (run_drop_zero an h2)]
        exact h

theorem text_take {s : List UInt8} {k : Int} {x : ByteArray} {v : Int} {len m : Nat} (h : text s = .tok k x v len) (hm : len ≤ m) : text (s.take m) = .tok k x v len := by
  unfold text at h ⊢
  have hc : (txt false s.tail).2.2 = 0 ∧ len = (txt false s.tail).2.1 + 2 := by
    have h5 := (txt_len false s.tail).2.2.2.2
    unfold textR at h
    by_cases h1 : (txt false s.tail).2.2 = 1
    · rw [if_pos h1] at h; cases h
    · rw [if_neg h1] at h
      by_cases h2 : 1000 < (txt false s.tail).1.length
      · rw [if_pos h2] at h; cases h
      · rw [if_neg h2] at h
        by_cases h3 : (txt false s.tail).2.2 = 2
        · rw [if_pos h3] at h; cases h
        · rw [if_neg h3] at h; injection h; omega
  have e : (s.take m).tail = s.tail.take (m - 1) := by
    cases s with
    | nil => simp
    | cons c r => cases m with
      | zero => omega
      | succ m => simp
  rw [e, txt_take false s.tail (m - 1) hc.1 (by omega)]
  exact h

theorem has_takeM {s : List UInt8} {x : ByteArray} {m : Nat} : has (s.take m) x = true → has s x = true := by
  unfold has
  rw [List.isPrefixOf_iff_prefix, List.isPrefixOf_iff_prefix]
  intro h
  exact h.trans (List.take_prefix m s)
theorem has_takeL {s : List UInt8} {x : ByteArray} {m : Nat} (h : has s x = true) (hm : x.size ≤ m) : has (s.take m) x = true := by
  have h1 := has_take h
  unfold has at h ⊢
  rw [List.isPrefixOf_iff_prefix] at h ⊢
  obtain ⟨t, ht⟩ := h
  have e : x.size = x.data.toList.length := by rw [Array.length_toList]; rfl
  exact ⟨t.take (m - x.size), by rw [← ht, List.take_append, e]; congr 1; rw [List.take_of_length_le (by omega)]⟩

theorem find_take {l : List ByteArray} {s : List UInt8} {x : ByteArray} {m : Nat} (h : l.find? (has s) = some x) (hm : x.size ≤ m) : l.find? (has (s.take m)) = some x := by
  induction l with
  | nil => cases h
  | cons y r ih =>
    rw [List.find?_cons] at h ⊢
    cases hy : has s y with
    | true =>
      rw [hy] at h
      obtain rfl : y = x := by simpa using h
      rw [has_takeL hy hm]
    | false =>
      rw [hy] at h
      have : has (s.take m) y = false := by
        rw [Bool.eq_false_iff]; intro h'; rw [has_takeM h'] at hy; cases hy
      rw [this]
      exact ih h

theorem sign_take {s : List UInt8} {k : Int} {x : ByteArray} {v : Int} {len m : Nat} (h : sign s = .tok k x v len) (hm : len ≤ m) : sign (s.take m) = .tok k x v len := by
  unfold sign at h ⊢
  cases hf : sw.find? (has s) with
  | none => rw [hf] at h; cases h
  | some y =>
    rw [hf] at h
    have h' : R.tok 7 y 0 y.size = R.tok k x v len := h
    injection h' with h1 h2 h3 h4
    rw [find_take hf (by omega)]
    subst h1 h2 h3 h4
    rfl

/-- A token's cut does not hang on what stands behind it and goes on behind. -/
theorem tok_take {s : List UInt8} {k : Int} {x : ByteArray} {v : Int} {len m : Nat} (h0 : 0 < len) (h : tok s = .tok k x v len) (hm : len ≤ m) : tok (s.take m) = .tok k x v len := by
  unfold tok at h ⊢
  rw [headD_take s (by omega)]
  unfold tokK at h ⊢
  by_cases h2 : kd (s.headD 0) = 2
  · rw [if_pos h2] at h ⊢; exact word_take h hm
  · rw [if_neg h2] at h ⊢
    by_cases h3 : kd (s.headD 0) = 3
    · rw [if_pos h3] at h ⊢; exact number_take h0 h hm
    · rw [if_neg h3] at h ⊢
      by_cases h4 : kd (s.headD 0) = 4
      · rw [if_pos h4] at h ⊢; exact text_take h hm
      · rw [if_neg h4] at h ⊢; exact sign_take h hm

end Lx
end Go.Proofs.YtbnifedcfkpohaaDoor
