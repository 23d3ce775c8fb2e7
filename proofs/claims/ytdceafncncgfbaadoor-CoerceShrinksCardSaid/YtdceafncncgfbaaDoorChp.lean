/- Chains in plain words: which layers are kept, the norm, and what stays of a chain in its norm. -/
import Derived.Test.YtdceafncncgfbaaDoorRows
set_option linter.unusedSimpArgs false
set_option linter.unusedVariables false
namespace Go.Proofs.YtdceafncncgfbaaDoor
namespace Chn
section
variable {α β κ : Type} [DecidableEq κ]
/-- The elements that are marked. -/
def pick : List Bool → List α → List α
  | b :: bs, x :: r => if b = true then x :: pick bs r else pick bs r
  | _, _ => []
/-- Of each element: is it the first of its letter at or behind the first one of some letter? (s: the letters met, d: those met since the newest one.) -/
def fk (k : α → κ) : List κ → List κ → List α → List Bool
  | _, _, [] => []
  | s, d, x :: r => if k x ∈ s then (if k x ∈ d then false :: fk k s d r else true :: fk k s (k x :: d) r) else true :: fk k (k x :: s) [k x] r
def orL (F G : List Bool) : List Bool := List.zipWith (fun a b => a || b) F G
def fF (k : α → κ) (l : List α) : List Bool := fk k [] [] l
def fB (k : α → κ) (l : List α) : List Bool := (fk k [] [] l.reverse).reverse
def fl (k : α → κ) (l : List α) : List Bool := orL (fF k l) (fB k l)
def norm (k : α → κ) (l : List α) : List α := pick (fl k l) l
/-- Whatever is marked in the first is marked in the second. -/
def Ov : List Bool → List Bool → Prop
  | [], [] => True
  | f :: fs, b :: bs => (f = true → b = true) ∧ Ov fs bs
  | _, _ => False
theorem fk_len (k : α → κ) : ∀ (s d : List κ) (l : List α), (fk k s d l).length = l.length
  | _, _, [] => rfl
  | s, d, x :: r => by
    unfold fk
    split
    · split <;> simp [fk_len]
    · simp [fk_len]
theorem fF_len (k : α → κ) (l : List α) : (fF k l).length = l.length := fk_len k _ _ l
theorem fB_len (k : α → κ) (l : List α) : (fB k l).length = l.length := by unfold fB; simp [fk_len]
theorem orL_len {F G : List Bool} (h : F.length = G.length) : (orL F G).length = F.length := by unfold orL; simp [h]
theorem fl_len (k : α → κ) (l : List α) : (fl k l).length = l.length := by
  unfold fl
  rw [orL_len (by rw [fF_len, fB_len]), fF_len]
theorem Ov.len : ∀ {F K : List Bool}, Ov F K → F.length = K.length
  | [], [], _ => rfl
  | _ :: _, _ :: _, h => by simp [Ov.len h.2]
  | [], _ :: _, h => h.elim
  | _ :: _, [], h => h.elim
theorem Ov.refl : ∀ F : List Bool, Ov F F
  | [] => trivial
  | _ :: r => ⟨id, Ov.refl r⟩
theorem Ov.trans : ∀ {F G H : List Bool}, Ov F G → Ov G H → Ov F H
  | [], [], [], _, _ => trivial
  | _ :: _, _ :: _, _ :: _, h, g => ⟨fun e => g.1 (h.1 e), h.2.trans g.2⟩
  | [], _ :: _, _, h, _ => h.elim
  | _ :: _, [], _, h, _ => h.elim
  | _, [], _ :: _, _, g => g.elim
  | _, _ :: _, [], _, g => g.elim
theorem Ov.app : ∀ {F K F' K' : List Bool}, Ov F K → Ov F' K' → Ov (F ++ F') (K ++ K')
  | [], [], _, _, _, h => h
  | _ :: _, _ :: _, _, _, h, g => ⟨h.1, h.2.app g⟩
  | [], _ :: _, _, _, h, _ => h.elim
  | _ :: _, [], _, _, h, _ => h.elim
theorem Ov.rev : ∀ {F K : List Bool}, Ov F K → Ov F.reverse K.reverse
  | [], [], _ => trivial
  | f :: fs, b :: bs, h => by
    rw [List.reverse_cons, List.reverse_cons]
    exact h.2.rev.app ⟨h.1, trivial⟩
  | [], _ :: _, h => h.elim
  | _ :: _, [], h => h.elim
theorem Ov.all : ∀ F : List Bool, Ov F (List.replicate F.length true)
  | [] => trivial
  | _ :: r => ⟨fun _ => rfl, Ov.all r⟩
theorem Ov.or_left : ∀ {F G : List Bool}, F.length = G.length → Ov F (orL F G)
  | [], [], _ => trivial
  | f :: fs, g :: gs, h => ⟨fun e => by simp [e], Ov.or_left (by simpa using h)⟩
  | [], _ :: _, h => by cases h
  | _ :: _, [], h => by cases h
theorem Ov.or_right : ∀ {F G : List Bool}, F.length = G.length → Ov G (orL F G)
  | [], [], _ => trivial
  | f :: fs, g :: gs, h => ⟨fun e => by simp [e], Ov.or_right (by simpa using h)⟩
  | [], _ :: _, h => by cases h
  | _ :: _, [], h => by cases h
theorem Ov.or : ∀ {F G K : List Bool}, Ov F K → Ov G K → Ov (orL F G) K
  | [], [], [], _, _ => trivial
  | f :: fs, g :: gs, b :: bs, h, h' => ⟨fun e => by
      rcases Bool.or_eq_true_iff.1 e with e | e
      · exact h.1 e
      · exact h'.1 e, h.2.or h'.2⟩
  | [], _ :: _, [], _, h => h.elim
  | _ :: _, [], [], h, _ => h.elim
  | [], _, _ :: _, h, _ => h.elim
  | _, [], _ :: _, _, h => h.elim
  | _ :: _, _ :: _, [], h, _ => h.elim
theorem ovF (k : α → κ) (l : List α) : Ov (fF k l) (fl k l) := Ov.or_left (by rw [fF_len, fB_len])
theorem ovB (k : α → κ) (l : List α) : Ov (fB k l) (fl k l) := Ov.or_right (by rw [fF_len, fB_len])
theorem pick_app : ∀ {K K' : List Bool} {l l' : List α}, K.length = l.length → pick (K ++ K') (l ++ l') = pick K l ++ pick K' l'
  | [], _, [], _, _ => rfl
  | b :: bs, _, x :: r, _, h => by
    simp only [List.cons_append, pick]
    rw [pick_app (by simpa using h)]
    split <;> simp
  | [], _, _ :: _, _, h => by cases h
  | _ :: _, _, [], _, h => by cases h
theorem pick_rev : ∀ {K : List Bool} {l : List α}, K.length = l.length → pick K.reverse l.reverse = (pick K l).reverse
  | [], [], _ => rfl
  | b :: bs, x :: r, h => by
    rw [List.reverse_cons, List.reverse_cons, pick_app (by simpa using h), pick_rev (by simpa using h)]
    cases b <;> simp [pick]
  | [], _ :: _, h => by cases h
  | _ :: _, [], h => by cases h
theorem pick_pick : ∀ {F K : List Bool} {l : List α}, Ov F K → pick (pick K F) (pick K l) = pick F l
  | [], [], l, _ => by cases l <;> rfl
  | f :: fs, b :: bs, [], _ => by
    cases b <;> simp [pick]
  | f :: fs, b :: bs, x :: r, h => by
    cases b with
    | true =>
      simp only [pick, if_true]
      rw [pick_pick h.2]
    | false =>
      have hf : f = false := by cases f with
        | false => rfl
        | true => exact absurd (h.1 rfl) (by simp)
      subst hf
      simp only [pick, Bool.false_eq_true, if_false]
      exact pick_pick h.2
  | [], _ :: _, _, h => h.elim
  | _ :: _, [], _, h => h.elim
theorem pick_or : ∀ {K F G : List Bool}, pick K (orL F G) = orL (pick K F) (pick K G)
  | [], _, _ => by unfold orL; simp [pick]
  | b :: bs, [], _ => by unfold orL; simp [pick]
  | b :: bs, f :: fs, [] => by
    unfold orL
    simp [pick]
  | b :: bs, f :: fs, g :: gs => by
    have := pick_or (K := bs) (F := fs) (G := gs)
    unfold orL at this ⊢
    cases b <;> simp [pick, this]
theorem pick_all : ∀ (l : List α), pick (List.replicate l.length true) l = l
  | [] => rfl
  | x :: r => by simp [List.replicate_succ, pick, pick_all r]
theorem pick_map (f : α → β) : ∀ {K : List Bool} {l : List α}, pick K (l.map f) = (pick K l).map f
  | [], _ => by simp [pick]
  | _ :: _, [] => by simp [pick]
  | b :: bs, x :: r => by
    cases b <;> simp [pick, pick_map f (K := bs) (l := r)]
theorem pick_len_le : ∀ {K : List Bool} {l : List α}, (pick K l).length ≤ l.length
  | [], _ => by simp [pick]
  | _ :: _, [] => by simp [pick]
  | b :: bs, x :: r => by
    have := pick_len_le (K := bs) (l := r)
    cases b <;> simp [pick] <;> omega
theorem pick_mem : ∀ {K : List Bool} {l : List α} {x : α}, x ∈ pick K l → x ∈ l
  | [], _, _, h => by simp [pick] at h
  | _ :: _, [], _, h => by simp [pick] at h
  | b :: bs, y :: r, x, h => by
    cases b with
    | true =>
      simp only [pick, if_true] at h
      rcases List.mem_cons.1 h with rfl | h
      · simp
      · exact List.mem_cons_of_mem _ (pick_mem h)
    | false =>
      simp only [pick, Bool.false_eq_true, if_false] at h
      exact List.mem_cons_of_mem _ (pick_mem h)
/-- What is not marked may be left out: the marks stay. -/
theorem fk_pick (k : α → κ) : ∀ {s d : List κ} {l : List α} {K : List Bool}, Ov (fk k s d l) K → fk k s d (pick K l) = pick K (fk k s d l)
  | s, d, [], K, h => by
    have := h.len
    cases K with
    | nil => rfl
    | cons _ _ => cases this
  | s, d, x :: r, K, h => by
    unfold fk at h
    cases K with
    | nil => exact absurd h.len (by split <;> (try split) <;> simp)
    | cons b bs =>
      by_cases h1 : k x ∈ s
      · by_cases h2 : k x ∈ d
        · rw [if_pos h1, if_pos h2] at h
          have e : ∀ q, fk k s d (x :: q) = false :: fk k s d q := fun q => by rw [fk, if_pos h1, if_pos h2]
          rw [e]
          cases b with
          | false =>
            simp only [pick, Bool.false_eq_true, if_false]
            exact fk_pick k h.2
          | true =>
            simp only [pick, if_true]
            rw [e, fk_pick k h.2]
        · rw [if_pos h1, if_neg h2] at h
          have e : ∀ q, fk k s d (x :: q) = true :: fk k s (k x :: d) q := fun q => by rw [fk, if_pos h1, if_neg h2]
          rw [e]
          obtain rfl : b = true := h.1 rfl
          simp only [pick, if_true]
          rw [e, fk_pick k h.2]
      · rw [if_neg h1] at h
        have e : ∀ q, fk k s d (x :: q) = true :: fk k (k x :: s) [k x] q := fun q => by rw [fk, if_neg h1]
        rw [e]
        obtain rfl : b = true := h.1 rfl
        simp only [pick, if_true]
        rw [e, fk_pick k h.2]
theorem norm_pick (k : α → κ) {l : List α} {K : List Bool} (h : Ov (fl k l) K) : norm k (pick K l) = norm k l := by
  have hl : K.length = l.length := by rw [← h.len, fl_len]
  have h1 : fF k (pick K l) = pick K (fF k l) := fk_pick k ((ovF k l).trans h)
  have h2 : fB k (pick K l) = pick K (fB k l) := by
    have ho := ((ovB k l).trans h).rev
    unfold fB at ho ⊢
    rw [List.reverse_reverse] at ho
    rw [← pick_rev hl, fk_pick k ho]
    have := pick_rev (K := K.reverse) (l := fk k [] [] l.reverse) (by simp [fk_len, hl])
    rw [List.reverse_reverse] at this
    exact this.symm
  unfold norm
  have h3 : fl k (pick K l) = pick K (fl k l) := by
    unfold fl
    rw [h1, h2, pick_or]
  rw [h3, pick_pick h]
theorem norm_norm (k : α → κ) (l : List α) : norm k (norm k l) = norm k l := norm_pick k (Ov.refl _)
theorem norm_rev (k : α → κ) (l : List α) : norm k l.reverse = (norm k l).reverse := by
  unfold norm
  rw [← pick_rev (fl_len k l)]
  congr 1
  unfold fl fF fB orL
  rw [List.reverse_reverse]
  have h : (fk k [] [] l).length = (fk k [] [] l.reverse).length := by simp [fk_len]
  generalize fk k [] [] l = A at h
  generalize fk k [] [] l.reverse = B at h
  rw [List.reverse_zipWith (by simpa using h), List.reverse_reverse]
  rw [List.zipWith_comm]
  congr 1
  funext a b
  exact Bool.or_comm b a
theorem fk_app (k : α → κ) : ∀ (s d : List κ) (a : List α), ∃ s' d', ∀ b, fk k s d (a ++ b) = fk k s d a ++ fk k s' d' b
  | s, d, [] => ⟨s, d, fun _ => rfl⟩
  | s, d, x :: r => by
    by_cases h1 : k x ∈ s
    · by_cases h2 : k x ∈ d
      · obtain ⟨s', d', h⟩ := fk_app k s d r
        exact ⟨s', d', fun b => by simp only [List.cons_append, fk, if_pos h1, if_pos h2, h]⟩
      · obtain ⟨s', d', h⟩ := fk_app k s (k x :: d) r
        exact ⟨s', d', fun b => by simp only [List.cons_append, fk, if_pos h1, if_neg h2, h]⟩
    · obtain ⟨s', d', h⟩ := fk_app k (k x :: s) [k x] r
      exact ⟨s', d', fun b => by simp only [List.cons_append, fk, if_neg h1, h]⟩
/-- Where letters are exchanged for others, nothing more is marked. -/
theorem fk_map (k : α → κ) (k' : β → κ) (f : α → β) (g : κ → κ) (hg : ∀ x, k' (f x) = g (k x)) : ∀ {s d s' d' : List κ} (l : List α), (∀ x ∈ s, g x ∈ s') → (∀ x ∈ d, g x ∈ d') → (∀ x ∈ d, x ∈ s) → Ov (fk k' s' d' (l.map f)) (fk k s d l)
  | s, d, s', d', [], _, _, _ => trivial
  | s, d, s', d', x :: r, hs, hd, hds => by
    rw [List.map_cons]
    unfold fk
    rw [hg]
    by_cases h1 : k x ∈ s
    · have h1' := hs _ h1
      by_cases h2 : k x ∈ d
      · have h2' := hd _ h2
        rw [if_pos h1, if_pos h2, if_pos h1', if_pos h2']
        exact ⟨id, fk_map k k' f g hg r hs hd hds⟩
      · rw [if_pos h1, if_neg h2, if_pos h1']
        have hds' : ∀ y ∈ k x :: d, y ∈ s := fun y hy => (List.mem_cons.1 hy).elim (fun e => e ▸ h1) (hds y)
        split
        · rename_i h2'
          refine ⟨fun _ => rfl, fk_map k k' f g hg r hs (fun y hy => (List.mem_cons.1 hy).elim (fun e => e ▸ h2') (hd y)) hds'⟩
        · refine ⟨fun _ => rfl, fk_map k k' f g hg r hs (fun y hy => ?_) hds'⟩
          rcases List.mem_cons.1 hy with rfl | hy
          · simp
          · exact List.mem_cons_of_mem _ (hd y hy)
    · rw [if_neg h1]
      have hds' : ∀ y ∈ [k x], y ∈ k x :: s := fun y hy => by simp at hy; subst hy; simp
      split
      · rename_i h1'
        have hs' : ∀ y ∈ k x :: s, g y ∈ s' := fun y hy => (List.mem_cons.1 hy).elim (fun e => e ▸ h1') (hs y)
        split
        · rename_i h2'
          exact ⟨fun _ => rfl, fk_map k k' f g hg r hs' (fun y hy => by simp at hy; subst hy; exact h2') hds'⟩
        · exact ⟨fun _ => rfl, fk_map k k' f g hg r hs' (fun y hy => by simp at hy; subst hy; simp) hds'⟩
      · refine ⟨fun _ => rfl, fk_map k k' f g hg r (fun y hy => ?_) (fun y hy => by simp at hy; subst hy; simp) hds'⟩
        rcases List.mem_cons.1 hy with rfl | hy
        · simp
        · exact List.mem_cons_of_mem _ (hs y hy)
theorem replicate_rev (n : Nat) : (List.replicate n true).reverse = List.replicate n true := by simp
/-- What stands behind another chain, its letters exchanged: only what is marked of it is. -/
theorem norm_behind (k : α → κ) (f : α → α) (g : κ → κ) (hg : ∀ x, k (f x) = g (k x)) (a l : List α) : norm k (a ++ (norm k l).map f) = norm k (a ++ l.map f) := by
  have hK : Ov (fl k (a ++ l.map f)) (List.replicate a.length true ++ fl k l) := by
    unfold fl
    refine Ov.or ?_ ?_
    · obtain ⟨s, d, h⟩ := fk_app k [] [] a
      unfold fF
      rw [h]
      refine Ov.app ?_ ((fk_map k k f g hg l (by simp) (by simp) (by simp)).trans (ovF k l))
      have := Ov.all (fk k [] [] a)
      rwa [fk_len] at this
    · unfold fB
      rw [List.reverse_append, ← List.map_reverse]
      obtain ⟨s, d, h⟩ := fk_app k [] [] (l.reverse.map f)
      rw [h, List.reverse_append]
      refine Ov.app ?_ ?_
      · have := (Ov.all (fk k s d a.reverse)).rev
        rw [replicate_rev, fk_len, List.length_reverse] at this
        exact this
      · have := (fk_map k k f g hg l.reverse (s := []) (d := []) (s' := []) (d' := []) (by simp) (by simp) (by simp)).rev
        exact this.trans (ovB k l)
  have := norm_pick k hK
  rw [pick_app (by simp), pick_all, pick_map] at this
  exact this
theorem norm_right (k : α → κ) (a l : List α) : norm k (a ++ norm k l) = norm k (a ++ l) := by
  have := norm_behind k id id (fun _ => rfl) a l
  simpa using this
theorem norm_left (k : α → κ) (a l : List α) : norm k (norm k a ++ l) = norm k (a ++ l) := by
  have h := norm_right k l.reverse a.reverse
  rw [norm_rev k a, ← List.reverse_append, ← List.reverse_append, norm_rev, norm_rev] at h
  exact List.reverse_inj.1 h
theorem norm_nil (k : α → κ) : norm k ([] : List α) = [] := rfl
theorem norm_head (k : α → κ) (x : α) (r : List α) : ∃ r', norm k (x :: r) = x :: r' := by
  unfold norm
  have h : Ov (fF k (x :: r)) (fl k (x :: r)) := ovF k _
  unfold fF fk at h
  rw [if_neg (by simp)] at h
  generalize fl k (x :: r) = K at h
  cases K with
  | nil => exact h.elim
  | cons b bs =>
    obtain rfl : b = true := h.1 rfl
    exact ⟨pick bs r, by simp only [pick, if_true]⟩
theorem norm_last (k : α → κ) (x : α) (r : List α) : ∃ r', norm k (r ++ [x]) = r' ++ [x] := by
  obtain ⟨r', h⟩ := norm_head k x r.reverse
  refine ⟨r'.reverse, ?_⟩
  have := norm_rev k (r ++ [x])
  rw [List.reverse_append, List.reverse_singleton, List.singleton_append, h] at this
  have h2 := congrArg List.reverse this
  rw [List.reverse_reverse, List.reverse_cons] at h2
  exact h2.symm
theorem norm_getLast (k : α → κ) (l : List α) : (norm k l).getLast? = l.getLast? := by
  rcases List.eq_nil_or_concat l with rfl | ⟨r, x, rfl⟩
  · rfl
  · rw [List.concat_eq_append]
    obtain ⟨r', h⟩ := norm_last k x r
    rw [h]
    simp
/-- The first one of the letter b at or behind the first one of the letter a. -/
def beh (k : α → κ) (a b : κ) : Bool → List α → Option α
  | _, [] => none
  | seen, x :: r => if (seen || decide (k x = a)) && decide (k x = b) then some x else beh k a b (seen || decide (k x = a)) r
theorem beh_pick (k : α → κ) (a b : κ) : ∀ {s d : List κ} {seen : Bool} {l : List α} {K : List Bool}, Ov (fk k s d l) K → (∀ y ∈ d, y ∈ s) → (seen = true ↔ a ∈ s) → (seen = true → ¬ b ∈ d) → beh k a b seen (pick K l) = beh k a b seen l
  | s, d, seen, [], K, h, _, _, _ => by cases K <;> rfl
  | s, d, seen, x :: r, [], h, _, _, _ => by
    have := h.len
    rw [fk_len] at this
    cases this
  | s, d, seen, x :: r, kb :: bs, h, hds, h1, h2 => by
    unfold fk at h
    by_cases hx : k x ∈ s
    · by_cases hd : k x ∈ d
      · rw [if_pos hx, if_pos hd] at h
        have hno : ((seen || decide (k x = a)) && decide (k x = b)) = false := by
          rw [Bool.and_eq_false_iff]
          by_cases e : k x = b
          · left
            have hs : seen = false := by
              cases seen with
              | false => rfl
              | true => exact absurd (e ▸ hd) (h2 rfl)
            rw [hs]
            have : ¬ k x = a := fun ea => by
              have := h1.2 (ea ▸ hx)
              rw [hs] at this
              cases this
            simp [this]
          · right
            simp [e]
        have hsn : (seen || decide (k x = a)) = seen := by
          by_cases e : k x = a
          · rw [h1.2 (e ▸ hx)]; rfl
          · simp [e]
        have ih := beh_pick k a b (seen := seen) h.2 hds h1 h2
        cases kb with
        | false =>
          simp only [pick, Bool.false_eq_true, if_false]
          rw [ih]
          conv => rhs; unfold beh
          rw [if_neg (by rw [hno]; simp), hsn]
        | true =>
          simp only [pick, if_true]
          unfold beh
          rw [if_neg (by rw [hno]; simp), if_neg (by rw [hno]; simp), hsn, ih]
      · rw [if_pos hx, if_neg hd] at h
        obtain rfl : kb = true := h.1 rfl
        simp only [pick, if_true]
        unfold beh
        split
        · rfl
        · rename_i hn
          refine beh_pick k a b h.2 (fun y hy => (List.mem_cons.1 hy).elim (fun e => e ▸ hx) (hds y)) ?_ ?_
          · rw [Bool.or_eq_true, h1]
            exact ⟨fun h => h.elim id (fun e => (of_decide_eq_true e) ▸ hx), Or.inl⟩
          · intro hs hb
            rw [hs, Bool.true_and, decide_eq_true_iff] at hn
            rcases List.mem_cons.1 hb with e | hb
            · exact hn e.symm
            · have hss : seen = true := by
                rcases Bool.or_eq_true_iff.1 hs with e | e
                · exact e
                · exact h1.2 ((of_decide_eq_true e) ▸ hx)
              exact h2 hss hb
    · rw [if_neg hx] at h
      obtain rfl : kb = true := h.1 rfl
      simp only [pick, if_true]
      unfold beh
      split
      · rfl
      · rename_i hn
        refine beh_pick k a b h.2 (fun y hy => by simp at hy; subst hy; simp) ?_ ?_
        · rw [Bool.or_eq_true, h1, decide_eq_true_iff, List.mem_cons]
          exact ⟨fun h => h.elim Or.inr (fun e => Or.inl e.symm), fun h => h.elim (fun e => Or.inr e.symm) Or.inl⟩
        · intro hs hb
          rw [hs, Bool.true_and, decide_eq_true_iff] at hn
          simp at hb
          exact hn hb.symm
theorem beh_norm (k : α → κ) (a b : κ) (l : List α) : beh k a b false (norm k l) = beh k a b false l :=
  beh_pick k a b (ovF k l) (by simp) (by simp) (by simp)
/-- What is told of each layer, once each, in the order in which it occurs first. -/
def cls (c : κ → β) [DecidableEq β] (k : α → κ) : List β → List α → List β
  | acc, [] => acc
  | acc, x :: r => if c (k x) ∈ acc then cls c k acc r else cls c k (acc ++ [c (k x)]) r
theorem cls_pick (c : κ → β) [DecidableEq β] (k : α → κ) : ∀ {s d : List κ} {acc : List β} {l : List α} {K : List Bool}, Ov (fk k s d l) K → (∀ y ∈ s, c y ∈ acc) → cls c k acc (pick K l) = cls c k acc l
  | s, d, acc, [], K, h, _ => by cases K <;> rfl
  | s, d, acc, x :: r, [], h, _ => by
    have := h.len
    rw [fk_len] at this
    cases this
  | s, d, acc, x :: r, kb :: bs, h, hs => by
    unfold fk at h
    by_cases hx : k x ∈ s
    · have hc := hs _ hx
      by_cases hd : k x ∈ d
      · rw [if_pos hx, if_pos hd] at h
        cases kb with
        | false =>
          simp only [pick, Bool.false_eq_true, if_false]
          rw [cls_pick c k h.2 hs]
          conv => rhs; unfold cls
          rw [if_pos hc]
        | true =>
          simp only [pick, if_true]
          unfold cls
          rw [if_pos hc, if_pos hc, cls_pick c k h.2 hs]
      · rw [if_pos hx, if_neg hd] at h
        obtain rfl : kb = true := h.1 rfl
        simp only [pick, if_true]
        unfold cls
        rw [if_pos hc, if_pos hc, cls_pick c k h.2 hs]
    · rw [if_neg hx] at h
      obtain rfl : kb = true := h.1 rfl
      simp only [pick, if_true]
      unfold cls
      split
      · rename_i hc
        exact cls_pick c k h.2 (fun y hy => (List.mem_cons.1 hy).elim (fun e => e ▸ hc) (hs y))
      · refine cls_pick c k h.2 (fun y hy => ?_)
        rcases List.mem_cons.1 hy with rfl | hy
        · simp
        · exact List.mem_append_left _ (hs y hy)
theorem cls_norm (c : κ → β) [DecidableEq β] (k : α → κ) (acc : List β) (l : List α) : cls c k acc (norm k l) = cls c k acc l :=
  cls_pick c k (ovF k l) (by simp)
/-! By places. -/
def New (ks : List κ) (j : Nat) : Prop := ∀ m, m < j → ks[m]? ≠ ks[j]?
def FAt (ks : List κ) (at_ : Nat) : Prop := ∃ j, j ≤ at_ ∧ New ks j ∧ ∀ m, j ≤ m → m < at_ → ks[m]? ≠ ks[at_]?
theorem fk_at (k : α → κ) (ks : List κ) : ∀ {s d : List κ} (l : List α) (n : Nat), (∀ i, ks[n + i]? = (l.map k)[i]?) → (∀ y, y ∈ s ↔ ∃ m, m < n ∧ ks[m]? = some y) → (∀ y ∈ s, (y ∈ d ↔ ∀ j, j < n → New ks j → ∃ m, j ≤ m ∧ m < n ∧ ks[m]? = some y)) → ∀ i b, (fk k s d l)[i]? = some b → (b = true ↔ FAt ks (n + i))
  | s, d, [], n, hk, hs, hd, i, b, hb => by simp [fk] at hb
  | s, d, x :: r, n, hk, hs, hd, i, b, hb => by
    have hx : ks[n]? = some (k x) := by have := hk 0; simpa using this
    have hk' : ∀ i, ks[n + 1 + i]? = (r.map k)[i]? := fun i => by
      have := hk (i + 1)
      rw [show n + (i + 1) = n + 1 + i by omega] at this
      simpa using this
    have hs1 : ∀ y, (y ∈ s ∨ y = k x) ↔ ∃ m, m < n + 1 ∧ ks[m]? = some y := fun y => by
      rw [hs]
      constructor
      · rintro (⟨m, h1, h2⟩ | rfl)
        · exact ⟨m, by omega, h2⟩
        · exact ⟨n, by omega, hx⟩
      · rintro ⟨m, h1, h2⟩
        by_cases e : m = n
        · subst e
          rw [hx] at h2
          exact .inr (Option.some.inj h2).symm
        · exact .inl ⟨m, by omega, h2⟩
    unfold fk at hb
    by_cases h1 : k x ∈ s
    · have hnew : ¬ New ks n := fun hn => by
        obtain ⟨m, hm, e⟩ := (hs _).1 h1
        exact hn m hm (e.trans hx.symm)
      have hs' : ∀ y, y ∈ s ↔ ∃ m, m < n + 1 ∧ ks[m]? = some y := fun y => by
        rw [← hs1]
        exact ⟨Or.inl, fun h => h.elim id (fun e => e ▸ h1)⟩
      by_cases h2 : k x ∈ d
      · rw [if_pos h1, if_pos h2] at hb
        cases i with
        | zero =>
          simp at hb
          subst hb
          refine ⟨by simp, ?_⟩
          rintro ⟨j, hj, hjn, hno⟩
          rw [Nat.add_zero] at hj hno
          have hjl : j < n := by
            rcases Nat.lt_or_ge j n with h | h
            · exact h
            · obtain rfl : j = n := by omega
              exact absurd hjn hnew
          obtain ⟨m, h3, h4, h5⟩ := (hd _ h1).1 h2 j hjl hjn
          exact absurd (h5.trans hx.symm) (hno m h3 h4)
        | succ i =>
          rw [List.getElem?_cons_succ] at hb
          have := fk_at k ks r (n + 1) hk' hs' (fun y hy => by
            rw [hd y hy]
            constructor
            · intro h j hj hjn
              have hjl : j < n := by
                rcases Nat.lt_or_ge j n with h | h
                · exact h
                · obtain rfl : j = n := by omega
                  exact absurd hjn hnew
              obtain ⟨m, h3, h4, h5⟩ := h j hjl hjn
              exact ⟨m, h3, by omega, h5⟩
            · intro h j hj hjn
              obtain ⟨m, h3, h4, h5⟩ := h j (by omega) hjn
              by_cases e : m = n
              · subst e
                rw [hx] at h5
                obtain rfl := Option.some.inj h5
                exact (hd _ h1).1 h2 j hj hjn
              · exact ⟨m, h3, by omega, h5⟩) i b hb
          rwa [show n + 1 + i = n + (i + 1) by omega] at this
      · rw [if_pos h1, if_neg h2] at hb
        cases i with
        | zero =>
          simp at hb
          subst hb
          refine ⟨fun _ => ?_, fun _ => rfl⟩
          rw [hd _ h1] at h2
          have ⟨j, h2⟩ := Classical.not_forall.1 h2
          have ⟨hj, h2⟩ := Classical.not_forall.1 h2
          have ⟨hjn, h2⟩ := Classical.not_forall.1 h2
          refine ⟨j, by omega, hjn, fun m h3 h4 e => h2 ⟨m, h3, by omega, ?_⟩⟩
          rw [Nat.add_zero, hx] at e
          exact e
        | succ i =>
          rw [List.getElem?_cons_succ] at hb
          have := fk_at k ks r (n + 1) hk' hs' (fun y hy => by
            rw [List.mem_cons]
            constructor
            · rintro h j hj hjn
              have hjl : j < n := by
                rcases Nat.lt_or_ge j n with h | h
                · exact h
                · obtain rfl : j = n := by omega
                  exact absurd hjn hnew
              rcases h with rfl | h
              · exact ⟨n, by omega, by omega, hx⟩
              · obtain ⟨m, h3, h4, h5⟩ := (hd y hy).1 h j hjl hjn
                exact ⟨m, h3, by omega, h5⟩
            · intro h
              by_cases e : y = k x
              · exact .inl e
              · refine .inr ((hd y hy).2 fun j hj hjn => ?_)
                obtain ⟨m, h3, h4, h5⟩ := h j (by omega) hjn
                by_cases em : m = n
                · subst em
                  rw [hx] at h5
                  exact absurd (Option.some.inj h5).symm e
                · exact ⟨m, h3, by omega, h5⟩) i b hb
          rwa [show n + 1 + i = n + (i + 1) by omega] at this
    · rw [if_neg h1] at hb
      have hnew : New ks n := fun m hm e => h1 ((hs _).2 ⟨m, hm, e.trans hx⟩)
      cases i with
      | zero =>
        simp at hb
        subst hb
        exact ⟨fun _ => ⟨n, Nat.le_refl _, hnew, fun m h3 h4 => by omega⟩, fun _ => rfl⟩
      | succ i =>
        rw [List.getElem?_cons_succ] at hb
        have := fk_at k ks r (n + 1) hk' (fun y => by
            rw [← hs1, List.mem_cons]
            exact Or.comm) (fun y hy => by
            rw [List.mem_singleton]
            constructor
            · rintro rfl j hj hjn
              exact ⟨n, by omega, by omega, hx⟩
            · intro h
              obtain ⟨m, h3, h4, h5⟩ := h n (by omega) hnew
              obtain rfl : m = n := by omega
              rw [hx] at h5
              exact (Option.some.inj h5).symm) i b hb
        rwa [show n + 1 + i = n + (i + 1) by omega] at this
theorem fF_at (k : α → κ) (l : List α) (i : Nat) (b : Bool) (hb : (fF k l)[i]? = some b) : b = true ↔ FAt (l.map k) i := by
  have := fk_at k (l.map k) (s := []) (d := []) l 0 (fun i => by rw [Nat.zero_add]) (fun y => by simp) (fun y hy => by cases hy) i b hb
  rwa [Nat.zero_add] at this
end
end Chn
end Go.Proofs.YtdceafncncgfbaaDoor
