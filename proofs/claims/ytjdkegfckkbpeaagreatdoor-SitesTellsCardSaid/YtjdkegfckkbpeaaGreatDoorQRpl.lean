/- The document's own check of a table (chaperonref05), in plain words, beside the code's: both find a fault in the same tables. -/
import Derived.Test.YtjdkegfckkbpeaaGreatDoorQz2
set_option linter.unusedSimpArgs false
set_option linter.unusedVariables false
set_option maxRecDepth 100000
namespace Go.Proofs.YtjdkegfckkbpeaaGreatDoor.Tab
def inN (l : List ByteArray) (s : ByteArray) : Bool := l.any fun x => decide (x = s)
/-- The names of fields, or of methods, of a line's classes. -/
def aboveN (t : List C) (s : ByteArray) (ms : Bool) : List ByteArray := (line t s).flatMap fun j => if ms then (nth t j).methods.map M.name else (nth t j).fields.map V.name
def rField (t : List C) (c : C) (i : Nat) : Int := match c.fields[i]? with
 | none => 0
 | some f => if chkVar t f = 0 then (if (c.fields.take i).any (fun x => decide (x.name = f.name)) = true then 8 else if inN (aboveN t c.super false) f.name = true then 8 else if inN (aboveN t c.super true) f.name = true then 8 else 0) else chkVar t f
def rOver (t : List C) (s : ByteArray) (m : M) : Int := match method t s m.name with
 | none => 0
 | some (o, _) => if sameSig o m = true then 0 else 10
def rMethod (t : List C) (c : C) (i : Nat) : Int := match c.methods[i]? with
 | none => 0
 | some m => if chkSig t m = 0 then (if (c.methods.take i).any (fun x => decide (x.name = m.name)) = true then 8 else if c.fields.any (fun x => decide (x.name = m.name)) = true then 8 else
   if inN (aboveN t c.super false) m.name = true then 8 else rOver t c.super m) else chkSig t m
def firstN (f : Nat → Int) : Nat → Nat → Int
 | _, 0 => 0
 | k, n + 1 => if f k = 0 then firstN f (k + 1) n else f k
def rOwn (t : List C) (i : Nat) : Int :=
 if firstN (rField t (nth t i)) 0 (nth t i).fields.length = 0 then firstN (rMethod t (nth t i)) 0 (nth t i).methods.length else firstN (rField t (nth t i)) 0 (nth t i).fields.length
def rCheck (t : List C) : Int × Int :=
 if 40 < t.length then (12, 40) else
 if (chkRound (chkHead t) 0 t.length).1 = 0 then
  (if (chkRound (chkSuper t) 0 t.length).1 = 0 then chkRound (rOwn t) 0 t.length else chkRound (chkSuper t) 0 t.length)
 else chkRound (chkHead t) 0 t.length
theorem firstN_zero {f : Nat → Int} : ∀ {n k : Nat}, firstN f k n = 0 ↔ ∀ j, j < n → f (k + j) = 0
 | 0, k => by simp [firstN]
 | n + 1, k => by
  have e : firstN f k (n + 1) = if f k = 0 then firstN f (k + 1) n else f k := rfl
  rw [e]
  by_cases h : f k = 0
  ·rw [if_pos h, firstN_zero]
   constructor
   ·intro g j hj
    cases j with
    | zero => exact h
    | succ j => rw [show k + (j + 1) = k + 1 + j by omega]; exact g j (by omega)
   ·intro g j hj
    rw [show k + 1 + j = k + (j + 1) by omega]
    exact g (j + 1) (by omega)
  ·rw [if_neg h]
   exact ⟨fun e => absurd e h, fun g => absurd (g 0 (by omega)) h⟩
theorem any_name {l : List V} {s : ByteArray} : (l.any fun x => decide (x.name = s)) = true ↔ hasF s l := by
 unfold hasF
 simp [List.any_eq_true]
theorem inN_fields {t : List C} {s n : ByteArray} : inN (aboveN t s false) n = true ↔ hasF n (fields t s) := by
 rw [hasF_fields]
 unfold inN aboveN hasF
 simp [List.any_eq_true]
theorem findM_isSome {n : ByteArray} {l : List M} : (∃ m ∈ l, m.name = n) → (ix M.name l n).isSome = true := by
 rintro ⟨m, hm, e⟩
 cases h : ix M.name l n with
 | some _ => rfl
 | none => exact absurd e (ix_isNone.1 h m hm)
theorem methodOf_some {n : ByteArray} {c : C} : (methodOf n c).isSome = true ↔ ∃ m ∈ c.methods, m.name = n := by
 unfold methodOf
 constructor
 ·intro h
  cases hx : ix M.name c.methods n with
  | none => rw [hx] at h; simp at h
  | some k =>
   obtain ⟨hk, e⟩ := ix_lt hx
   exact ⟨_, List.getElem_mem hk, e⟩
 ·intro h
  obtain ⟨k, hk⟩ := Option.isSome_iff_exists.1 (findM_isSome h)
  obtain ⟨hl, _⟩ := ix_lt hk
  rw [hk]
  simp [List.getElem?_eq_getElem hl]
theorem inN_methods {t : List C} {s n : ByteArray} : inN (aboveN t s true) n = true ↔ (method t s n).isSome = true := by
 have h := method_find t s n
 have : (method t s n).isSome = ((line t s).findSome? fun j => methodOf n (nth t j)).isSome := by rw [← h]; simp
 rw [this]
 unfold inN aboveN
 rw [List.any_eq_true, List.findSome?_isSome_iff]
 constructor
 ·rintro ⟨x, hx, e⟩
  obtain ⟨j, hj, hx⟩ := List.mem_flatMap.1 hx
  obtain ⟨m, hm, em⟩ := List.mem_map.1 (by simpa using hx)
  exact ⟨j, hj, methodOf_some.2 ⟨m, hm, em.trans (of_decide_eq_true e)⟩⟩
 ·rintro ⟨j, hj, h⟩
  obtain ⟨m, hm, e⟩ := methodOf_some.1 h
  exact ⟨n, List.mem_flatMap.2 ⟨j, hj, by simpa using ⟨m, hm, e⟩⟩, by simp⟩
theorem put_none {h : Held} {s n : ByteArray} {x : Option M × Bool} : ((h.put s x) n).isSome = false ↔ ¬ n = s ∧ (h n).isSome = false := by
 unfold Held.put
 by_cases e : n = s
 ·rw [if_pos e]; simp [e]
 ·rw [if_neg e]; simp [e]
theorem chkFs_iff (t : List C) : ∀ (fs : List V) (h : Held), (chkFs t h fs).1 = 0 ↔ ∀ k f, fs[k]? = some f → chkVar t f = 0 ∧ (h f.name).isSome = false ∧ ¬ hasF f.name (fs.take k)
 | [], h => by simp [chkFs]
 | f :: r, h => by
  unfold chkFs
  constructor
  ·intro e k g hg
   by_cases h0 : chkVar t f = 0
   ·rw [if_pos h0] at e
    by_cases h1 : (h f.name).isSome = true
    ·rw [if_pos h1] at e; cases e
    ·rw [if_neg h1] at e
     cases k with
     | zero =>
      simp at hg
      subst hg
      exact ⟨h0, by simpa using h1, fun ⟨_, hm, _⟩ => by simp at hm⟩
     | succ k =>
      obtain ⟨a, b, c⟩ := (chkFs_iff t r _).1 e k g (by simpa using hg)
      obtain ⟨b1, b2⟩ := put_none.1 b
      refine ⟨a, b2, ?_⟩
      rintro ⟨y, hy, ey⟩
      rw [List.take_succ_cons] at hy
      rcases List.mem_cons.1 hy with rfl | hy
      ·exact b1 ey.symm
      ·exact c ⟨y, hy, ey⟩
   ·rw [if_neg h0] at e
    exact absurd e h0
  ·intro H
   obtain ⟨h0, h1, _⟩ := H 0 f rfl
   rw [if_pos h0, if_neg (by simp [h1])]
   refine (chkFs_iff t r _).2 fun k g hg => ?_
   obtain ⟨a, b, c⟩ := H (k + 1) g (by simpa using hg)
   rw [List.take_succ_cons] at c
   exact ⟨a, put_none.2 ⟨fun e => c ⟨f, List.mem_cons_self .., e.symm⟩, b⟩, fun ⟨y, hy, ey⟩ => c ⟨y, List.mem_cons_of_mem _ hy, ey⟩⟩
theorem chkM1_put {h : Held} {s : ByteArray} {x : Option M} {m : M} : chkM1 (h.put s (x, true)) m = 0 ↔ ¬ m.name = s ∧ chkM1 h m = 0 := by
 unfold chkM1 Held.put
 by_cases e : m.name = s
 ·rw [if_pos e]; simp [e]
 ·rw [if_neg e]; simp [e]
theorem chkMs_iff (t : List C) : ∀ (ms : List M) (h : Held), chkMs t h ms = 0 ↔ ∀ k m, ms[k]? = some m → chkSig t m = 0 ∧ chkM1 h m = 0 ∧ ¬ ∃ y ∈ ms.take k, y.name = m.name
 | [], h => by simp [chkMs]
 | f :: r, h => by
  unfold chkMs
  constructor
  ·intro e k g hg
   by_cases h0 : chkSig t f = 0
   ·rw [if_pos h0] at e
    by_cases h1 : chkM1 h f = 0
    ·rw [if_pos h1] at e
     cases k with
     | zero =>
      simp at hg
      subst hg
      exact ⟨h0, h1, fun ⟨_, hm, _⟩ => by simp at hm⟩
     | succ k =>
      obtain ⟨a, b, c⟩ := (chkMs_iff t r _).1 e k g (by simpa using hg)
      obtain ⟨b1, b2⟩ := chkM1_put.1 b
      refine ⟨a, b2, ?_⟩
      rintro ⟨y, hy, ey⟩
      rw [List.take_succ_cons] at hy
      rcases List.mem_cons.1 hy with rfl | hy
      ·exact b1 ey.symm
      ·exact c ⟨y, hy, ey⟩
    ·rw [if_neg h1] at e
     exact absurd e h1
   ·rw [if_neg h0] at e
    exact absurd e h0
  ·intro H
   obtain ⟨h0, h1, _⟩ := H 0 f rfl
   rw [if_pos h0, if_pos h1]
   refine (chkMs_iff t r _).2 fun k g hg => ?_
   obtain ⟨a, b, c⟩ := H (k + 1) g (by simpa using hg)
   rw [List.take_succ_cons] at c
   exact ⟨a, chkM1_put.2 ⟨fun e => c ⟨f, List.mem_cons_self .., e.symm⟩, b⟩, fun ⟨y, hy, ey⟩ => c ⟨y, List.mem_cons_of_mem _ hy, ey⟩⟩
theorem rField_zero {t : List C} {c : C} {k : Nat} {f : V} (hf : c.fields[k]? = some f) : rField t c k = 0 ↔ chkVar t f = 0 ∧ (inh t c.super f.name).isSome = false ∧ ¬ hasF f.name (c.fields.take k) := by
 unfold rField
 rw [hf]
 simp only
 have hi : (inh t c.super f.name).isSome = false ↔ ¬ hasF f.name (fields t c.super) ∧ ¬ (method t c.super f.name).isSome = true := by
  obtain ⟨i1, i2⟩ := inh_spec t c.super f.name
  by_cases h : hasF f.name (fields t c.super)
  ·rw [i1 h]; simp [h]
  ·rw [i2 h]; cases method t c.super f.name <;> simp [h]
 rw [hi, ← inN_fields, ← inN_methods]
 by_cases h0 : chkVar t f = 0
 ·rw [if_pos h0]
  by_cases h1 : ((c.fields.take k).any fun x => decide (x.name = f.name)) = true
  ·rw [if_pos h1]
   simp only [h0, any_name.1 h1, not_true, and_false, iff_false]
   decide
  ·rw [if_neg h1]
   have h1' : ¬ hasF f.name (c.fields.take k) := fun h => h1 (any_name.2 h)
   by_cases h2 : inN (aboveN t c.super false) f.name = true
   ·rw [if_pos h2]; simp [h2]
   ·rw [if_neg h2]
    by_cases h3 : inN (aboveN t c.super true) f.name = true
    ·rw [if_pos h3]; simp [h3]
    ·rw [if_neg h3]; exact ⟨fun _ => ⟨h0, ⟨h2, h3⟩, h1'⟩, fun _ => rfl⟩
 ·rw [if_neg h0]
  exact ⟨fun e => absurd e h0, fun e => absurd e.1 h0⟩
theorem rMethod_zero {t : List C} {c : C} {h1 : Held} (hh : ∀ s, (hasF s c.fields → h1 s = some (none, false)) ∧ (¬ hasF s c.fields → h1 s = inh t c.super s)) {k : Nat} {m : M} (hm : c.methods[k]? = some m) :
  rMethod t c k = 0 ↔ chkSig t m = 0 ∧ chkM1 h1 m = 0 ∧ ¬ ∃ y ∈ c.methods.take k, y.name = m.name := by
 unfold rMethod
 rw [hm]
 simp only
 obtain ⟨a1, a2⟩ := hh m.name
 obtain ⟨i1, i2⟩ := inh_spec t c.super m.name
 by_cases h0 : chkSig t m = 0
 ·rw [if_pos h0]
  by_cases e1 : ((c.methods.take k).any fun x => decide (x.name = m.name)) = true
  ·rw [if_pos e1]
   have : ∃ y ∈ c.methods.take k, y.name = m.name := by
    obtain ⟨y, hy, e⟩ := List.any_eq_true.1 e1
    exact ⟨y, hy, of_decide_eq_true e⟩
   exact ⟨fun e => absurd e (by decide), fun e => absurd this e.2.2⟩
  ·rw [if_neg e1]
   have n1 : ¬ ∃ y ∈ c.methods.take k, y.name = m.name := fun ⟨y, hy, e⟩ => e1 (List.any_eq_true.2 ⟨y, hy, decide_eq_true e⟩)
   by_cases e2 : (c.fields.any fun x => decide (x.name = m.name)) = true
   ·rw [if_pos e2]
    have hM : chkM1 h1 m = 8 := by unfold chkM1; rw [a1 (any_name.1 e2)]; rfl
    rw [hM]
    exact ⟨fun e => absurd e (by decide), fun e => absurd e.2.1 (by decide)⟩
   ·rw [if_neg e2]
    have a2' := a2 fun h => e2 (any_name.2 h)
    by_cases e3 : inN (aboveN t c.super false) m.name = true
    ·rw [if_pos e3]
     have hM : chkM1 h1 m = 8 := by unfold chkM1; rw [a2', i1 (inN_fields.1 e3)]; rfl
     rw [hM]
     exact ⟨fun e => absurd e (by decide), fun e => absurd e.2.1 (by decide)⟩
    ·rw [if_neg e3]
     have i2' := i2 fun h => e3 (inN_fields.2 h)
     have hM : chkM1 h1 m = rOver t c.super m := by
      unfold chkM1 rOver
      rw [a2', i2']
      cases method t c.super m.name with
      | none => rfl
      | some p => obtain ⟨o, q⟩ := p; simp
     rw [hM]
     exact ⟨fun e => ⟨h0, e, n1⟩, fun e => e.2.1⟩
 ·rw [if_neg h0]
  exact ⟨fun e => absurd e h0, fun e => absurd e.1 h0⟩
theorem rOwn_zero (t : List C) (i : Nat) : rOwn t i = 0 ↔ chkMembers t i = 0 := by
 unfold rOwn chkMembers
 generalize nth t i = c
 have hF : firstN (rField t c) 0 c.fields.length = 0 ↔ (chkFs t (inh t c.super) c.fields).1 = 0 := by
  rw [firstN_zero, chkFs_iff]
  constructor
  ·intro H k f hf
   have hk : k < c.fields.length := (List.getElem?_eq_some_iff.1 hf).1
   have := H k hk
   rw [Nat.zero_add] at this
   exact (rField_zero hf).1 this
  ·intro H k hk
   rw [Nat.zero_add]
   exact (rField_zero (List.getElem?_eq_getElem hk)).2 (H k _ (List.getElem?_eq_getElem hk))
 by_cases hz : (chkFs t (inh t c.super) c.fields).1 = 0
 ·rw [if_pos (hF.2 hz), if_pos hz, firstN_zero, chkMs_iff]
  obtain ⟨_, _, hh⟩ := chkFs_spec t c.fields (inh t c.super) (chkFs t (inh t c.super) c.fields).2 (by rw [← hz])
  constructor
  ·intro H k m hm
   have hk : k < c.methods.length := (List.getElem?_eq_some_iff.1 hm).1
   have := H k hk
   rw [Nat.zero_add] at this
   exact (rMethod_zero hh hm).1 this
  ·intro H k hk
   rw [Nat.zero_add]
   exact (rMethod_zero hh (List.getElem?_eq_getElem hk)).2 (H k _ (List.getElem?_eq_getElem hk))
 ·have hz' : ¬ firstN (rField t c) 0 c.fields.length = 0 := fun e => hz (hF.1 e)
  rw [if_neg hz', if_neg hz]
  exact ⟨fun e => absurd e hz', fun e => absurd e hz⟩
theorem round_iff {f g : Nat → Int} (h : ∀ i, f i = 0 ↔ g i = 0) : ∀ (n i : Nat), (chkRound f i n).1 = 0 ↔ (chkRound g i n).1 = 0
 | 0, _ => Iff.rfl
 | n + 1, i => by
  have e : ∀ f : Nat → Int, chkRound f i (n + 1) = if f i = 0 then chkRound f (i + 1) n else (f i, (i : Int)) := fun _ => rfl
  rw [e, e]
  by_cases h0 : f i = 0
  ·rw [if_pos h0, if_pos ((h i).1 h0)]; exact round_iff h n (i + 1)
  ·rw [if_neg h0, if_neg (fun x => h0 ((h i).2 x))]
   exact ⟨fun x => absurd x h0, fun x => absurd ((h i).2 x) h0⟩
theorem rCheck_ok (t : List C) : (rCheck t).1 = 0 ↔ (check t).1 = 0 := by
 unfold rCheck check
 by_cases h0 : 40 < t.length
 ·rw [if_pos h0, if_pos h0]
 ·rw [if_neg h0, if_neg h0]
  by_cases h1 : (chkRound (chkHead t) 0 t.length).1 = 0
  ·rw [if_pos h1, if_pos h1]
   by_cases h2 : (chkRound (chkSuper t) 0 t.length).1 = 0
   ·rw [if_pos h2, if_pos h2]; exact round_iff (rOwn_zero t) _ _
   ·rw [if_neg h2, if_neg h2]
  ·rw [if_neg h1, if_neg h1]
theorem rCheck_zero {t : List C} (h : (rCheck t).1 = 0) : rCheck t = (0, 0) := by
 unfold rCheck at h ⊢
 by_cases h0 : 40 < t.length
 ·rw [if_pos h0] at h; exact absurd h (by decide)
 ·rw [if_neg h0] at h ⊢
  by_cases h1 : (chkRound (chkHead t) 0 t.length).1 = 0
  ·rw [if_pos h1] at h ⊢
   by_cases h2 : (chkRound (chkSuper t) 0 t.length).1 = 0
   ·rw [if_pos h2] at h ⊢; exact rnd_zero _ _ _ h
   ·rw [if_neg h2] at h; exact absurd h h2
  ·rw [if_neg h1] at h; exact absurd h h1
/-- Is the document's fault none? -/
theorem rCheck_is (t : List C) : decide (rCheck t = (0, 0)) = ok t := by
 unfold ok
 rw [Bool.eq_iff_iff, decide_eq_true_eq, decide_eq_true_eq, ← rCheck_ok]
 exact ⟨fun h => by rw [h], rCheck_zero⟩
end Go.Proofs.YtjdkegfckkbpeaaGreatDoor.Tab
