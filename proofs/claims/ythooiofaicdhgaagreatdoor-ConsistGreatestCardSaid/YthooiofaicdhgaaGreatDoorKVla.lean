/- Tables without a fault, in plain words: what the checks give; no class has two members of one name; a class has its superclass' members. Tables without a fault, in plain words: a class' line (what TableAbove asks of it). Types of a table, in plain words: which one is below which one, what two have in common above them, who is below a class (what layer 6 asks). -/
import Derived.Test.YthooiofaicdhgaaGreatDoorKTck
set_option linter.unusedSimpArgs false
set_option linter.unusedVariables false
set_option maxRecDepth 100000
namespace Go.Proofs.YthooiofaicdhgaaGreatDoor.Tab
structure Valid (t : List C) : Prop where
 head : ∀ i, i < t.length → chkHead t i = 0
 super : ∀ i, i < t.length → chkSuper t i = 0
 members : ∀ i, i < t.length → chkMembers t i = 0
theorem rnd_all (f : Nat → Int) : ∀ (n i : Nat), (chkRound f i n).1 = 0 → ∀ j, i ≤ j → j < i + n → f j = 0
 | 0, i, _, j, h1, h2 => by omega
 | n + 1, i, h, j, h1, h2 => by
  have e : chkRound f i (n + 1) = if f i = 0 then chkRound f (i + 1) n else (f i, (i : Int)) := rfl
  rw [e] at h
  by_cases hz : f i = 0
  ·rw [if_pos hz] at h
   by_cases hj : j = i
   ·rw [hj]; exact hz
   ·exact rnd_all f n (i + 1) h j (by omega) (by omega)
  ·rw [if_neg hz] at h
   exact absurd h hz
theorem valid_of {t : List C} (h : check t = (0, 0)) : Valid t := by
 unfold check at h
 by_cases h0 : 40 < t.length
 ·rw [if_pos h0] at h; exact absurd h (by decide)
 ·rw [if_neg h0] at h
  by_cases h1 : (chkRound (chkHead t) 0 t.length).1 = 0
  ·rw [if_pos h1] at h
   by_cases h2 : (chkRound (chkSuper t) 0 t.length).1 = 0
   ·rw [if_pos h2] at h
    have h3 : (chkRound (chkMembers t) 0 t.length).1 = 0 := by rw [h]
    exact ⟨fun i hi => rnd_all _ _ _ h1 i (Nat.zero_le _) (by omega), fun i hi => rnd_all _ _ _ h2 i (Nat.zero_le _) (by omega), fun i hi => rnd_all _ _ _ h3 i (Nat.zero_le _) (by omega)⟩
   ·rw [if_neg h2] at h
    exact absurd (by rw [h]) h2
  ·rw [if_neg h1] at h
   exact absurd (by rw [h]) h1
section
variable {t : List C} (hv : Valid t)
include hv
theorem Valid.cls {i : Nat} (hi : i < t.length) : Wrd.cls (nth t i).name = true := by
 have h := hv.head i hi
 unfold chkHead at h
 by_cases hc : Wrd.cls (nth t i).name = true
 ·exact hc
 ·rw [if_neg hc] at h; exact absurd h (by decide)
theorem Valid.fresh {i : Nat} (hi : i < t.length) : ∀ y ∈ t.take i, ¬ y.name = (nth t i).name := by
 have h := hv.head i hi
 unfold chkHead at h
 rw [if_pos (hv.cls hi)] at h
 by_cases hs : (ix C.name (t.take i) (nth t i).name).isSome = true
 ·rw [if_pos hs] at h; exact absurd h (by decide)
 ·exact ix_isNone.1 (by simpa using hs)
theorem Valid.find {i : Nat} (hi : i < t.length) : ix C.name t (nth t i).name = some i := ix_some (of_nth hi) rfl (hv.fresh hi)
theorem Valid.nobody : ix C.name t ⟨#[]⟩ = none := by
 refine ix_none fun y hy e => ?_
 obtain ⟨i, hi, rfl⟩ := List.getElem_of_mem hy
 have h1 := hv.cls hi
 rw [nth_of (List.getElem?_eq_getElem hi), e] at h1
 exact absurd h1 (by decide +kernel)
/-- A class' superclass: none, or a class whose line does not come back. -/
theorem Valid.sup {i : Nat} (hi : i < t.length) : (nth t i).super = ⟨#[]⟩ ∨ ∃ k, k < t.length ∧ (nth t i).super = (nth t k).name ∧ ∀ j ∈ line t (nth t i).super, j ≠ i := by
 have h := hv.super i hi
 unfold chkSuper at h
 by_cases h0 : (nth t i).super = ⟨#[]⟩
 ·exact .inl h0
 ·rw [if_neg h0] at h
  by_cases h1 : (ix C.name t (nth t i).super).isSome = true
  ·rw [if_pos h1] at h
   obtain ⟨k, hk⟩ := Option.isSome_iff_exists.1 h1
   obtain ⟨hk1, hk2⟩ := ix_lt hk
   refine .inr ⟨k, hk1, ?_, fun j hj e => ?_⟩
   ·rw [nth_of (List.getElem?_eq_getElem hk1)]; exact hk2.symm
   ·rw [if_pos] at h
    ·exact absurd h (by decide)
    ·exact List.any_eq_true.2 ⟨j, hj, decide_eq_true (by rw [e])⟩
  ·rw [if_neg h1] at h; exact absurd h (by decide)
omit hv in
theorem lineF_ps : ∀ (m : Nat) (ps qs rs : List Nat) (s : ByteArray), (∀ j, j ∈ rs ↔ j ∈ ps ∨ j ∈ qs) → (∀ j ∈ lineF t m qs s, j ∉ ps) → lineF t m rs s = lineF t m qs s
 | 0, _, _, _, _, _, _ => rfl
 | m + 1, ps, qs, rs, s, hr, hn => by
  cases ha : at' t s with
  | none => rw [lineF_none ha, lineF_none ha]
  | some i =>
   by_cases hq : i ∈ qs
   ·rw [lineF_passed ha hq, lineF_passed ha ((hr i).2 (.inr hq))]
   ·rw [lineF_goes ha hq] at hn ⊢
    have hp : i ∉ ps := hn i (List.mem_cons_self ..)
    have hrs : i ∉ rs := fun h => ((hr i).1 h).elim hp hq
    rw [lineF_goes ha hrs, lineF_ps m ps (qs ++ [i]) (rs ++ [i]) _ (fun j => ?_) (fun j hj => hn j (List.mem_cons_of_mem _ hj))]
    rw [List.mem_append, List.mem_append, hr j, or_assoc]
omit hv in
theorem lineF_fuel : ∀ (m : Nat) (ps : List Nat) (s : ByteArray), ps.Nodup → (∀ j ∈ ps, j < t.length) → t.length < m + ps.length → lineF t (m + 1) ps s = lineF t m ps s
 | 0, ps, s, h1, h2, h3 => by
  have := places_le t.length ps h1 h2
  omega
 | m + 1, ps, s, h1, h2, h3 => by
  cases ha : at' t s with
  | none => rw [lineF_none ha, lineF_none ha]
  | some i =>
   by_cases hq : i ∈ ps
   ·rw [lineF_passed ha hq, lineF_passed ha hq]
   ·rw [lineF_goes ha hq, lineF_goes ha hq, lineF_fuel m (ps ++ [i]) _ ?_ ?_ ?_]
    ·rw [List.nodup_append]
     exact ⟨h1, by simp, fun x hx y hy => by simp at hy; subst hy; rintro rfl; exact hq hx⟩
    ·intro j hj
     rcases List.mem_append.1 hj with hj | hj
     ·exact h2 j hj
     ·simp at hj; rw [hj]; exact (ix_lt ha).1
    ·simp; omega
theorem Valid.line_empty : line t ⟨#[]⟩ = [] := lineF_none hv.nobody
theorem Valid.line_cons {i : Nat} (hi : i < t.length) : line t (nth t i).name = i :: line t (nth t i).super := by
 have e1 : line t (nth t i).name = i :: lineF t t.length [i] (nth t i).super := by
  unfold line
  rw [lineF_goes (hv.find hi) (by simp)]
  rfl
 rw [e1, ← lineF_fuel t.length [i] _ (by simp) (by simpa using hi) (by simp)]
 congr 1
 refine lineF_ps (t.length + 1) [i] [] [i] _ (by simp) fun j hj hji => ?_
 have hji' : j = i := by simpa using hji
 rcases hv.sup hi with h | ⟨k, _, _, h⟩
 ·rw [h] at hj
  have : lineF t (t.length + 1) [] ⟨#[]⟩ = [] := lineF_none hv.nobody
  rw [this] at hj
  cases hj
 ·exact h j hj hji'
/-- What holds of a class without a superclass, and of a class if of its superclass, holds of all. -/
theorem Valid.induct {P : Nat → Prop} (base : ∀ i, i < t.length → (nth t i).super = ⟨#[]⟩ → P i) (step : ∀ i k, i < t.length → k < t.length → (nth t i).super = (nth t k).name → P k → P i) : ∀ i, i < t.length → P i := by
 have key : ∀ (n i : Nat), i < t.length → (line t (nth t i).name).length ≤ n → P i := by
  intro n
  induction n with
  | zero =>
   intro i hi h
   rw [hv.line_cons hi] at h
   simp at h
  | succ n ih =>
   intro i hi h
   rcases hv.sup hi with h0 | ⟨k, hk, hks, _⟩
   ·exact base i hi h0
   ·refine step i k hi hk hks (ih k hk ?_)
    rw [hv.line_cons hi, hks] at h
    simpa using h
 exact fun i hi => key _ i hi (Nat.le_refl _)
theorem Valid.fields_eq {i : Nat} (hi : i < t.length) : fields t (nth t i).name = fields t (nth t i).super ++ (nth t i).fields := by
 unfold fields
 rw [hv.line_cons hi]
 simp
theorem Valid.methods_eq {i : Nat} (hi : i < t.length) : methods t (nth t i).name = (nth t i).methods.foldl addM (methods t (nth t i).super) := by
 unfold methods
 rw [hv.line_cons hi]
 simp
omit hv in
theorem foldl_or (f : Nat → Option ByteArray) : ∀ (l : List Nat) (a : Option ByteArray), l.foldl (fun a i => (f i).or a) a = (l.foldl (fun a i => (f i).or a) none).or a
 | [], a => by simp
 | x :: r, a => by
  rw [List.foldl_cons, foldl_or f r, List.foldl_cons, foldl_or f r ((f x).or none)]
  cases (r.foldl (fun a i => (f i).or a) none) <;> cases f x <;> rfl
theorem Valid.field_eq {i : Nat} (hi : i < t.length) (nm : ByteArray) : field t (nth t i).name nm = (field t (nth t i).super nm).or (fieldOf nm (nth t i)) := by
 unfold field
 rw [hv.line_cons hi, List.foldl_cons, foldl_or]
 simp
theorem Valid.method_eq {i : Nat} (hi : i < t.length) (nm : ByteArray) : method t (nth t i).name nm = ((methodOf nm (nth t i)).map fun m => (m, (nth t i).name)).or (method t (nth t i).super nm) := by
 unfold method
 rw [hv.line_cons hi, List.findSome?_cons]
 cases (methodOf nm (nth t i)) <;> rfl
end
end Go.Proofs.YthooiofaicdhgaaGreatDoor.Tab
namespace Go.Proofs.YthooiofaicdhgaaGreatDoor.Tab
theorem ix_find {α : Type} (nm : α → ByteArray) (s : ByteArray) : ∀ l : List α, ((ix nm l s).bind fun k => l[k]?) = l.find? fun x => decide (nm x = s)
 | [] => rfl
 | x :: r => by
  have ih := ix_find nm s r
  unfold ix at ih ⊢
  rw [List.findIdx?_cons, List.find?_cons]
  by_cases h : nm x = s
  ·simp [h]
  ·simp only [decide_eq_false h, if_neg, Bool.false_eq_true, if_false]
   rw [← ih]
   cases List.findIdx? (fun x => decide (nm x = s)) r <;> rfl
theorem methodOf_find (s : ByteArray) (c : C) : methodOf s c = c.methods.find? fun m => decide (m.name = s) := ix_find M.name s c.methods
theorem fieldOf_find (s : ByteArray) (c : C) : fieldOf s c = (c.fields.find? fun f => decide (f.name = s)).map (·.typ) := by
 rw [← ix_find V.name s c.fields]
 unfold fieldOf
 cases ix V.name c.fields s <;> rfl
def hasF (s : ByteArray) (l : List V) : Prop := ∃ f ∈ l, f.name = s
def hasM (s : ByteArray) (l : List M) : Prop := ∃ m ∈ l, m.name = s
theorem foldF (s : ByteArray) : ∀ (l : List V) (h : Held), (hasF s l → (l.foldl (fun h f => h.put f.name (none, false)) h) s = some (none, false)) ∧ (¬ hasF s l → (l.foldl (fun h f => h.put f.name (none, false)) h) s = h s)
 | [], h => ⟨fun ⟨_, hf, _⟩ => (by cases hf), fun _ => rfl⟩
 | f :: r, h => by
  obtain ⟨i1, i2⟩ := foldF s r (h.put f.name (none, false))
  rw [List.foldl_cons]
  by_cases hr : hasF s r
  ·exact ⟨fun _ => i1 hr, fun hn => absurd ⟨_, List.mem_cons_of_mem _ hr.choose_spec.1, hr.choose_spec.2⟩ hn⟩
  ·rw [i2 hr]
   unfold Held.put
   by_cases hf : s = f.name
   ·rw [if_pos hf]
    exact ⟨fun _ => rfl, fun hn => absurd ⟨f, List.mem_cons_self .., hf.symm⟩ hn⟩
   ·rw [if_neg hf]
    refine ⟨fun ⟨g, hg, e⟩ => ?_, fun _ => rfl⟩
    rcases List.mem_cons.1 hg with rfl | hg
    ·exact absurd e.symm hf
    ·exact absurd ⟨g, hg, e⟩ hr
theorem foldM (s : ByteArray) : ∀ (l : List M) (h : Held), (l.foldl (fun h m => if (h m.name).isSome then h else h.put m.name (some m, false)) h) s = (h s).or ((l.find? fun m => decide (m.name = s)).map fun m => (some m, false))
 | [], h => by simp
 | m :: r, h => by
  rw [List.foldl_cons, foldM s r, List.find?_cons]
  by_cases hs : m.name = s
  ·subst hs
   simp only [decide_true]
   cases hh : h m.name with
   | some x => simp [hh]
   | none => simp [Held.put]
  ·simp only [decide_eq_false hs]
   have : (if (h m.name).isSome then h else h.put m.name (some m, false)) s = h s := by
    split
    ·rfl
    ·unfold Held.put
     rw [if_neg (fun e => hs e.symm)]
   rw [this]
theorem inhC_spec (h : Held) (c : C) (s : ByteArray) : (hasF s c.fields → inhC h c s = some (none, false)) ∧ (¬ hasF s c.fields → inhC h c s = (h s).or ((methodOf s c).map fun m => (some m, false))) := by
 unfold inhC
 rw [foldM, methodOf_find]
 obtain ⟨i1, i2⟩ := foldF s c.fields h
 exact ⟨fun hf => by rw [i1 hf]; rfl, fun hn => by rw [i2 hn]⟩
theorem inhL_spec (t : List C) (s : ByteArray) : ∀ (L : List Nat) (h : Held), ((∃ j ∈ L, hasF s (nth t j).fields) → (L.foldl (fun h i => inhC h (nth t i)) h) s = some (none, false)) ∧
  ((¬ ∃ j ∈ L, hasF s (nth t j).fields) → (L.foldl (fun h i => inhC h (nth t i)) h) s = (h s).or ((L.findSome? fun j => methodOf s (nth t j)).map fun m => (some m, false)))
 | [], h => ⟨fun ⟨_, hj, _⟩ => (by cases hj), fun _ => (by simp)⟩
 | j :: r, h => by
  obtain ⟨i1, i2⟩ := inhL_spec t s r (inhC h (nth t j))
  obtain ⟨c1, c2⟩ := inhC_spec h (nth t j) s
  rw [List.foldl_cons]
  by_cases hr : ∃ k ∈ r, hasF s (nth t k).fields
  ·refine ⟨fun _ => i1 hr, fun hn => absurd ?_ hn⟩
   obtain ⟨k, hk, hf⟩ := hr
   exact ⟨k, List.mem_cons_of_mem _ hk, hf⟩
  ·rw [i2 hr]
   by_cases hj : hasF s (nth t j).fields
   ·rw [c1 hj]
    exact ⟨fun _ => rfl, fun hn => absurd ⟨j, List.mem_cons_self .., hj⟩ hn⟩
   ·rw [c2 hj]
    refine ⟨fun ⟨k, hk, hf⟩ => ?_, fun _ => ?_⟩
    ·rcases List.mem_cons.1 hk with rfl | hk
     ·exact absurd hf hj
     ·exact absurd ⟨k, hk, hf⟩ hr
    ·rw [List.findSome?_cons]
     cases h s <;> cases methodOf s (nth t j) <;> simp
theorem hasF_fields (t : List C) (c s : ByteArray) : hasF s (fields t c) ↔ ∃ j ∈ line t c, hasF s (nth t j).fields := by
 unfold fields hasF
 constructor
 ·rintro ⟨f, hf, e⟩
  obtain ⟨j, hj, hf⟩ := List.mem_flatMap.1 hf
  exact ⟨j, List.mem_reverse.1 hj, f, hf, e⟩
 ·rintro ⟨j, hj, f, hf, e⟩
  exact ⟨f, List.mem_flatMap.2 ⟨j, List.mem_reverse.2 hj, hf⟩, e⟩
theorem method_find (t : List C) (c s : ByteArray) : (method t c s).map Prod.fst = (line t c).findSome? fun j => methodOf s (nth t j) := by
 unfold method
 induction line t c with
 | nil => rfl
 | cons j r ih =>
  rw [List.findSome?_cons, List.findSome?_cons]
  cases methodOf s (nth t j) with
  | none => simpa using ih
  | some m => rfl
/-- What is inherited from a class: a field's name is a field's; else a method's. -/
theorem inh_spec (t : List C) (c s : ByteArray) : (hasF s (fields t c) → inh t c s = some (none, false)) ∧ (¬ hasF s (fields t c) → inh t c s = ((method t c s).map Prod.fst).map fun m => (some m, false)) := by
 unfold inh
 obtain ⟨i1, i2⟩ := inhL_spec t s (line t c) fun _ => none
 rw [hasF_fields, method_find]
 exact ⟨i1, fun hn => by rw [i2 hn]; rfl⟩
/-- Behind the check of a class' fields. -/
theorem chkFs_spec (t : List C) : ∀ (fs : List V) (h h' : Held), chkFs t h fs = (0, h') → (∀ f ∈ fs, h f.name = none) ∧ (fs.map (·.name)).Nodup ∧ ∀ s, (hasF s fs → h' s = some (none, false)) ∧ (¬ hasF s fs → h' s = h s)
 | [], h, h', e => by
  cases e
  exact ⟨fun f hf => (by cases hf), List.nodup_nil, fun s => ⟨fun ⟨_, hf, _⟩ => (by cases hf), fun _ => rfl⟩⟩
 | f :: r, h, h', e => by
  unfold chkFs at e
  by_cases h0 : chkVar t f = 0
  ·rw [if_pos h0] at e
   by_cases h1 : (h f.name).isSome = true
   ·rw [if_pos h1] at e; cases e
   ·rw [if_neg h1] at e
    obtain ⟨i1, i2, i3⟩ := chkFs_spec t r _ _ e
    have hfn : h f.name = none := by simpa using h1
    have hput : ∀ s, ¬ s = f.name → (h.put f.name (none, false)) s = h s := fun s hs => by unfold Held.put; rw [if_neg hs]
    have hpf : (h.put f.name (none, false)) f.name = some (none, false) := by unfold Held.put; rw [if_pos rfl]
    refine ⟨fun g hg => ?_, ?_, fun s => ⟨fun ⟨g, hg, eg⟩ => ?_, fun hn => ?_⟩⟩
    ·rcases List.mem_cons.1 hg with rfl | hg
     ·exact hfn
     ·have := i1 g hg
      by_cases hs : g.name = f.name
      ·rw [hs, hpf] at this; cases this
      ·rwa [hput _ hs] at this
    ·rw [List.map_cons, List.nodup_cons]
     refine ⟨fun hm => ?_, i2⟩
     obtain ⟨g, hg, eg⟩ := List.mem_map.1 hm
     have := i1 g hg
     rw [eg, hpf] at this
     cases this
    ·by_cases hr : hasF s r
     ·exact (i3 s).1 hr
     ·rw [(i3 s).2 hr]
      rcases List.mem_cons.1 hg with rfl | hg
      ·rw [← eg, hpf]
      ·exact absurd ⟨g, hg, eg⟩ hr
    ·have hr : ¬ hasF s r := fun ⟨g, hg, eg⟩ => hn ⟨g, List.mem_cons_of_mem _ hg, eg⟩
     rw [(i3 s).2 hr, hput s fun es => hn ⟨f, List.mem_cons_self .., es.symm⟩]
  ·rw [if_neg h0] at e
   injection e with e1 e2
   exact absurd e1 h0
/-- Behind the check of a class' methods. -/
theorem chkMs_spec (t : List C) : ∀ (ms : List M) (h : Held), chkMs t h ms = 0 → (ms.map (·.name)).Nodup ∧ ∀ m ∈ ms, h m.name = none ∨ ∃ x, h m.name = some (some x, false) ∧ sameSig x m = true
 | [], h, _ => ⟨List.nodup_nil, fun m hm => (by cases hm)⟩
 | m :: r, h, e => by
  unfold chkMs at e
  by_cases h0 : chkSig t m = 0
  ·rw [if_pos h0] at e
   by_cases h1 : chkM1 h m = 0
   ·rw [if_pos h1] at e
    obtain ⟨i1, i2⟩ := chkMs_spec t r _ e
    have hput : ∀ s, ¬ s = m.name → (h.put m.name (some m, true)) s = h s := fun s hs => by unfold Held.put; rw [if_neg hs]
    have hpm : (h.put m.name (some m, true)) m.name = some (some m, true) := by unfold Held.put; rw [if_pos rfl]
    refine ⟨?_, fun x hx => ?_⟩
    ·rw [List.map_cons, List.nodup_cons]
     refine ⟨fun hm => ?_, i1⟩
     obtain ⟨g, hg, eg⟩ := List.mem_map.1 hm
     rcases i2 g hg with h2 | ⟨y, h2, _⟩
     ·rw [eg, hpm] at h2; cases h2
     ·rw [eg, hpm] at h2; cases h2
    ·rcases List.mem_cons.1 hx with rfl | hx
     ·unfold chkM1 at h1
      cases hh : h x.name with
      | none => exact .inl rfl
      | some z =>
       obtain ⟨o, own⟩ := z
       rw [hh] at h1
       cases own with
       | true => exact absurd h1 (by simp)
       | false =>
        cases o with
        | none => exact absurd h1 (by simp)
        | some y =>
         refine .inr ⟨y, rfl, ?_⟩
         by_cases hs : sameSig y x = true
         ·exact hs
         ·simp [hs] at h1
     ·by_cases hs : x.name = m.name
      ·rcases i2 x hx with h2 | ⟨y, h2, _⟩
       ·rw [hs, hpm] at h2; cases h2
       ·rw [hs, hpm] at h2; cases h2
      ·have := i2 x hx
       rwa [hput _ hs] at this
   ·rw [if_neg h1] at e; exact absurd e h1
  ·rw [if_neg h0] at e; exact absurd e h0
end Go.Proofs.YthooiofaicdhgaaGreatDoor.Tab
namespace Go.Proofs.YthooiofaicdhgaaGreatDoor.Tab
theorem find_nodup {α : Type} (nm : α → ByteArray) : ∀ {l : List α} {x : α}, (l.map nm).Nodup → x ∈ l → (l.find? fun y => decide (nm y = nm x)) = some x
 | y :: r, x, hn, hx => by
  rw [List.map_cons, List.nodup_cons] at hn
  rw [List.find?_cons]
  rcases List.mem_cons.1 hx with rfl | hx
  ·simp
  ·have : ¬ nm y = nm x := fun e => hn.1 (List.mem_map.2 ⟨x, hx, e.symm⟩)
   simp only [decide_eq_false this]
   exact find_nodup nm hn.2 hx
theorem find_no {α : Type} (nm : α → ByteArray) {l : List α} {s : ByteArray} (h : ¬ ∃ x ∈ l, nm x = s) : (l.find? fun y => decide (nm y = s)) = none := by
 rw [List.find?_eq_none]
 intro x hx e
 exact h ⟨x, hx, of_decide_eq_true e⟩
theorem nodup_eq {α : Type} (nm : α → ByteArray) {l : List α} (hn : (l.map nm).Nodup) {x y : α} (hx : x ∈ l) (hy : y ∈ l) (e : nm x = nm y) : x = y := by
 have h1 := find_nodup nm hn hx
 have h2 := find_nodup nm hn hy
 rw [e, h2] at h1
 exact (Option.some.inj h1).symm
theorem addM_names (l : List M) (m : M) : (hasM m.name l → (addM l m).map (·.name) = l.map (·.name)) ∧ (¬ hasM m.name l → (addM l m).map (·.name) = l.map (·.name) ++ [m.name]) := by
 unfold addM
 cases h : ix M.name l m.name with
 | none => exact ⟨fun ⟨x, hx, e⟩ => absurd e (ix_isNone.1 h x hx), fun _ => by simp⟩
 | some k =>
  obtain ⟨hk, he⟩ := ix_lt h
  refine ⟨fun _ => ?_, fun hn => absurd ⟨l[k], List.getElem_mem hk, he⟩ hn⟩
  show (l.set k m).map (·.name) = l.map (·.name)
  rw [List.map_set]
  refine List.ext_getElem? fun j => ?_
  rw [List.getElem?_set]
  split
  ·rename_i hj
   subst hj
   simp [hk, he]
  ·rfl
theorem addM_nodup {l : List M} {m : M} (h : (l.map (·.name)).Nodup) : ((addM l m).map (·.name)).Nodup := by
 obtain ⟨a1, a2⟩ := addM_names l m
 by_cases hn : hasM m.name l
 ·rw [a1 hn]; exact h
 ·rw [a2 hn, List.nodup_append]
  refine ⟨h, by simp, fun a ha b hb => ?_⟩
  simp at hb
  subst hb
  rintro rfl
  obtain ⟨x, hx, e⟩ := List.mem_map.1 ha
  exact hn ⟨x, hx, e⟩
theorem addM_mem {l : List M} {m : M} (h : (l.map (·.name)).Nodup) (x : M) : x ∈ addM l m ↔ x = m ∨ (x ∈ l ∧ ¬ x.name = m.name) := by
 have hnd := addM_nodup (m := m) h
 have hm : m ∈ addM l m := by
  unfold addM
  cases hi : ix M.name l m.name with
  | none => simp
  | some k =>
   obtain ⟨hk, _⟩ := ix_lt hi
   exact List.mem_set hk m
 constructor
 ·intro hx
  by_cases e : x = m
  ·exact .inl e
  ·refine .inr ⟨?_, fun en => e (nodup_eq M.name hnd hx hm en)⟩
   unfold addM at hx
   cases hi : ix M.name l m.name with
   | none =>
    rw [hi] at hx
    rcases List.mem_append.1 hx with hx | hx
    ·exact hx
    ·simp at hx; exact absurd hx e
   | some k =>
    rw [hi] at hx
    rcases List.mem_or_eq_of_mem_set hx with hx | hx
    ·exact hx
    ·exact absurd hx e
 ·rintro (rfl | ⟨hx, hn⟩)
  ·exact hm
  ·unfold addM
   cases hi : ix M.name l m.name with
   | none => exact List.mem_append_left _ hx
   | some k =>
    obtain ⟨hk, he⟩ := ix_lt hi
    obtain ⟨j, hj, rfl⟩ := List.getElem_of_mem hx
    have hne : k ≠ j := by rintro rfl; exact hn he
    rw [List.mem_iff_getElem?]
    exact ⟨j, by rw [List.getElem?_set_ne hne]; exact List.getElem?_eq_getElem hj⟩
theorem foldM_nodup : ∀ (ms l : List M), (l.map (·.name)).Nodup → ((ms.foldl addM l).map (·.name)).Nodup
 | [], _, h => h
 | m :: r, l, h => foldM_nodup r (addM l m) (addM_nodup h)
theorem foldM_mem : ∀ (ms l : List M), (l.map (·.name)).Nodup → (ms.map (·.name)).Nodup → ∀ x, x ∈ ms.foldl addM l ↔ x ∈ ms ∨ (x ∈ l ∧ ∀ m ∈ ms, ¬ x.name = m.name)
 | [], l, _, _, x => by simp
 | m :: r, l, h, hn, x => by
  rw [List.map_cons, List.nodup_cons] at hn
  rw [List.foldl_cons, foldM_mem r (addM l m) (addM_nodup h) hn.2 x, addM_mem h x]
  constructor
  ·rintro (hx | ⟨rfl | ⟨hx, he⟩, hr⟩)
   ·exact .inl (List.mem_cons_of_mem _ hx)
   ·exact .inl (List.mem_cons_self ..)
   ·refine .inr ⟨hx, fun y hy => ?_⟩
    rcases List.mem_cons.1 hy with rfl | hy
    ·exact he
    ·exact hr y hy
  ·rintro (hx | ⟨hx, hr⟩)
   ·rcases List.mem_cons.1 hx with rfl | hx
    ·exact .inr ⟨.inl rfl, fun y hy e => hn.1 (List.mem_map.2 ⟨y, hy, e.symm⟩)⟩
    ·exact .inl hx
   ·exact .inr ⟨.inr ⟨hx, hr m (List.mem_cons_self ..)⟩, fun y hy => hr y (List.mem_cons_of_mem _ hy)⟩
/-- What holds of a class' members. -/
structure Good (t : List C) (c : ByteArray) : Prop where
 fn : ((fields t c).map (·.name)).Nodup
 mn : ((methods t c).map (·.name)).Nodup
 dj : ∀ s, hasF s (fields t c) → ¬ hasM s (methods t c)
 fd : ∀ x ∈ fields t c, field t c x.name = some x.typ
 fN : ∀ s, ¬ hasF s (fields t c) → field t c s = none
 md : ∀ m ∈ methods t c, ∃ j, j < t.length ∧ method t c m.name = some (m, (nth t j).name)
 mN : ∀ s, ¬ hasM s (methods t c) → method t c s = none
 ar : ∀ s, ((line t c).findSome? fun j => (lastOf s (nth t j).methods).map fun m => (m.params.length : Int)) = (method t c s).map fun x => (x.1.params.length : Int)
theorem lastOf_eq {l : List M} (hn : (l.map (·.name)).Nodup) (s : ByteArray) : lastOf s l = l.find? fun m => decide (m.name = s) := by
 unfold lastOf
 by_cases h : ∃ m ∈ l, m.name = s
 ·obtain ⟨m, hm, rfl⟩ := h
  rw [find_nodup M.name hn hm]
  refine find_nodup M.name (l := l.reverse) ?_ (List.mem_reverse.2 hm)
  rw [List.map_reverse]
  unfold List.Nodup at hn ⊢
  rw [List.pairwise_reverse]
  exact hn.imp fun h => h.symm
 ·rw [find_no M.name h]
  refine find_no M.name (l := l.reverse) ?_
  rintro ⟨m, hm, e⟩
  exact h ⟨m, List.mem_reverse.1 hm, e⟩
section
variable {t : List C} (hv : Valid t)
include hv
theorem Valid.good_empty : Good t ⟨#[]⟩ := by
 have hl := hv.line_empty
 constructor
 ·unfold fields; rw [hl]; exact List.nodup_nil
 ·unfold methods; rw [hl]; exact List.nodup_nil
 ·intro s ⟨f, hf, _⟩; unfold fields at hf; rw [hl] at hf; cases hf
 ·intro x hx; unfold fields at hx; rw [hl] at hx; cases hx
 ·intro s _; unfold field; rw [hl]; rfl
 ·intro m hm; unfold methods at hm; rw [hl] at hm; cases hm
 ·intro s _; unfold method; rw [hl]; rfl
 ·intro s; unfold method; rw [hl]; rfl
/-- What the check of a class' members says. -/
theorem Valid.mem {i : Nat} (hi : i < t.length) : ∃ h1, chkFs t (inh t (nth t i).super) (nth t i).fields = (0, h1) ∧ chkMs t h1 (nth t i).methods = 0 := by
 have h := hv.members i hi
 unfold chkMembers at h
 by_cases h0 : (chkFs t (inh t (nth t i).super) (nth t i).fields).1 = 0
 ·rw [if_pos h0] at h
  exact ⟨_, Prod.ext h0 rfl, h⟩
 ·rw [if_neg h0] at h
  exact absurd h h0
theorem Valid.step {i : Nat} (hi : i < t.length) (g : Good t (nth t i).super) : Good t (nth t i).name ∧ ∀ m ∈ methods t (nth t i).super, ∃ m' ∈ methods t (nth t i).name, m'.name = m.name ∧ (m' = m ∨ sameSig m m' = true) := by
 obtain ⟨h1, e1, e2⟩ := hv.mem hi
 obtain ⟨f1, f2, f3⟩ := chkFs_spec t _ _ _ e1
 obtain ⟨m1, m2⟩ := chkMs_spec t _ _ e2
 have hF := hv.fields_eq hi
 have hM := hv.methods_eq hi
 have memM := foldM_mem (nth t i).methods (methods t (nth t i).super) g.mn m1
 -- own fields are new
 have fnew : ∀ f ∈ (nth t i).fields, ¬ hasF f.name (fields t (nth t i).super) ∧ method t (nth t i).super f.name = none := by
  intro f hf
  have h0 := f1 f hf
  obtain ⟨i1, i2⟩ := inh_spec t (nth t i).super f.name
  by_cases hh : hasF f.name (fields t (nth t i).super)
  ·rw [i1 hh] at h0; cases h0
  ·rw [i2 hh] at h0
   refine ⟨hh, ?_⟩
   cases hm : method t (nth t i).super f.name with
   | none => rfl
   | some z => rw [hm] at h0; cases h0
 -- own methods have no field's name
 have mnew : ∀ m ∈ (nth t i).methods, ¬ hasF m.name (nth t i).fields ∧ ¬ hasF m.name (fields t (nth t i).super) := by
  intro m hm
  have h0 := m2 m hm
  obtain ⟨i1, i2⟩ := inh_spec t (nth t i).super m.name
  by_cases ho : hasF m.name (nth t i).fields
  ·rw [(f3 m.name).1 ho] at h0
   rcases h0 with h0 | ⟨x, h0, _⟩ <;> cases h0
  ·refine ⟨ho, fun hh => ?_⟩
   rw [(f3 m.name).2 ho, i1 hh] at h0
   rcases h0 with h0 | ⟨x, h0, _⟩ <;> cases h0
 have msup : ∀ m ∈ (nth t i).methods, ∀ x ∈ methods t (nth t i).super, x.name = m.name → sameSig x m = true := by
  intro m hm x hx e
  have h0 := m2 m hm
  obtain ⟨n1, n2⟩ := mnew m hm
  obtain ⟨i1, i2⟩ := inh_spec t (nth t i).super m.name
  rw [(f3 m.name).2 n1, i2 n2] at h0
  obtain ⟨j, _, hj⟩ := g.md x hx
  rw [← e, hj] at h0
  rcases h0 with h0 | ⟨y, h0, hs⟩
  ·cases h0
  ·injection h0 with h0
   injection h0 with h0 _
   injection h0 with h0
   have h0' : x = y := h0
   rw [h0']; exact hs
 have hmo : ∀ s, methodOf s (nth t i) = (nth t i).methods.find? fun m => decide (m.name = s) := fun s => methodOf_find s _
 refine ⟨⟨?_, ?_, ?_, ?_, ?_, ?_, ?_, ?_⟩, ?_⟩
 ·rw [hF, List.map_append, List.nodup_append]
  refine ⟨g.fn, f2, fun a ha b hb => ?_⟩
  rintro rfl
  obtain ⟨x, hx, ex⟩ := List.mem_map.1 ha
  obtain ⟨y, hy, ey⟩ := List.mem_map.1 hb
  exact (fnew y hy).1 ⟨x, hx, by rw [ey]; exact ex⟩
 ·rw [hM]; exact foldM_nodup _ _ g.mn
 ·rintro s ⟨f, hf, rfl⟩ ⟨m, hm, em⟩
  rw [hM, memM] at hm
  rw [hF] at hf
  rcases hm with hm | ⟨hm, _⟩
  ·rcases List.mem_append.1 hf with hf | hf
   ·exact (mnew m hm).2 ⟨f, hf, em.symm⟩
   ·exact (mnew m hm).1 ⟨f, hf, em.symm⟩
  ·rcases List.mem_append.1 hf with hf | hf
   ·exact g.dj f.name ⟨f, hf, rfl⟩ ⟨m, hm, em⟩
   ·obtain ⟨j, _, hj⟩ := g.md m hm
    rw [em, (fnew f hf).2] at hj
    cases hj
 ·intro x hx
  rw [hF] at hx
  rw [hv.field_eq hi]
  rcases List.mem_append.1 hx with hx | hx
  ·rw [g.fd x hx]; rfl
  ·rw [g.fN x.name (fnew x hx).1, fieldOf_find, find_nodup V.name f2 hx]; rfl
 ·intro s hs
  rw [hF] at hs
  have h2 : ¬ hasF s (fields t (nth t i).super) := fun ⟨f, hf, e⟩ => hs ⟨f, List.mem_append_left _ hf, e⟩
  have h3 : ¬ hasF s (nth t i).fields := fun ⟨f, hf, e⟩ => hs ⟨f, List.mem_append_right _ hf, e⟩
  rw [hv.field_eq hi, g.fN s h2, fieldOf_find, find_no V.name h3]; rfl
 ·intro m hm
  rw [hM, memM] at hm
  rw [hv.method_eq hi, hmo]
  rcases hm with hm | ⟨hm, hn⟩
  ·rw [find_nodup M.name m1 hm]
   exact ⟨i, hi, rfl⟩
  ·rw [find_no M.name (fun ⟨y, hy, e⟩ => hn y hy e.symm)]
   obtain ⟨j, hj, e⟩ := g.md m hm
   exact ⟨j, hj, by rw [e]; rfl⟩
 ·intro s hs
  rw [hv.method_eq hi, hmo]
  have h2 : ¬ ∃ m ∈ (nth t i).methods, m.name = s := fun ⟨m, hm, e⟩ => hs ⟨m, by rw [hM, memM]; exact .inl hm, e⟩
  have h3 : ¬ hasM s (methods t (nth t i).super) := fun ⟨m, hm, e⟩ => hs ⟨m, by
   rw [hM, memM]
   exact .inr ⟨hm, fun y hy ey => h2 ⟨y, hy, by rw [← ey]; exact e⟩⟩, e⟩
  rw [find_no M.name h2, g.mN s h3]; rfl
 ·intro s
  rw [hv.line_cons hi, List.findSome?_cons, hv.method_eq hi, hmo, lastOf_eq m1, g.ar s]
  cases (nth t i).methods.find? (fun m => decide (m.name = s)) <;> rfl
 ·intro m hm
  by_cases h : ∃ y ∈ (nth t i).methods, m.name = y.name
  ·obtain ⟨y, hy, e⟩ := h
   exact ⟨y, by rw [hM, memM]; exact .inl hy, e.symm, .inr (msup y hy m hm e)⟩
  ·exact ⟨m, by rw [hM, memM]; exact .inr ⟨hm, fun y hy e => h ⟨y, hy, e⟩⟩, rfl, .inl rfl⟩
theorem Valid.good {i : Nat} (hi : i < t.length) : Good t (nth t i).name :=
 hv.induct (P := fun i => Good t (nth t i).name) (fun i hi h => (hv.step hi (h ▸ hv.good_empty)).1) (fun i k hi hk h g => (hv.step hi (h ▸ g)).1) i hi
theorem Valid.good_sup {i : Nat} (hi : i < t.length) : Good t (nth t i).super := by
 rcases hv.sup hi with h | ⟨k, hk, h, _⟩
 ·rw [h]; exact hv.good_empty
 ·rw [h]; exact hv.good hk
end
end Go.Proofs.YthooiofaicdhgaaGreatDoor.Tab
namespace Go.Proofs.YthooiofaicdhgaaGreatDoor.Tab
theorem Good.names {t : List C} {c : ByteArray} (g : Good t c) : ((members t c).map (·.1)).Nodup := by
 have e : (members t c).map (·.1) = (fields t c).map (·.name) ++ (methods t c).map (·.name) := by
  unfold members; simp [List.map_append, List.map_map, Function.comp_def]
 rw [e, List.nodup_append]
 refine ⟨g.fn, g.mn, ?_⟩
 intro a ha b hb e
 obtain ⟨f, hf, rfl⟩ := List.mem_map.1 ha
 obtain ⟨m, hm, rfl⟩ := List.mem_map.1 hb
 exact g.dj f.name ⟨f, hf, rfl⟩ ⟨m, hm, e.symm⟩
end Go.Proofs.YthooiofaicdhgaaGreatDoor.Tab
namespace Go.Proofs.YthooiofaicdhgaaGreatDoor.Tab
theorem lineF_nodup (t : List C) : ∀ (m : Nat) (ps : List Nat) (s : ByteArray), (lineF t m ps s).Nodup ∧ (∀ j ∈ lineF t m ps s, j ∉ ps ∧ j < t.length)
 | 0, _, _ => ⟨List.nodup_nil, fun j h => by cases h⟩
 | m + 1, ps, s => by
  unfold lineF
  cases h : at' t s with
  | none => exact ⟨List.nodup_nil, fun j h => by cases h⟩
  | some i =>
   by_cases hp : i ∈ ps
   ·simp only [if_pos hp]; exact ⟨List.nodup_nil, fun j h => by cases h⟩
   ·simp only [if_neg hp]
    obtain ⟨h1, h2⟩ := lineF_nodup t m (ps ++ [i]) (nth t i).super
    refine ⟨List.nodup_cons.2 ⟨fun hm => (h2 i hm).1 (by simp), h1⟩, fun j hj => ?_⟩
    rcases List.mem_cons.1 hj with rfl | hj
    ·exact ⟨hp, (ix_lt h).1⟩
    ·exact ⟨fun hm => (h2 j hj).1 (List.mem_append.2 (.inl hm)), (h2 j hj).2⟩
theorem supers_at (t : List C) (s : ByteArray) : (supers t s).length = (line t s).length := by unfold supers; simp
theorem sameTys_length {l m : List V} (h : sameTys l m = true) : l.length = m.length := by
 unfold sameTys at h; simp at h; exact h.1
end Go.Proofs.YthooiofaicdhgaaGreatDoor.Tab
namespace Go.Proofs.YthooiofaicdhgaaGreatDoor.Tab
instance decMem (s : ByteArray) (l : List ByteArray) : Decidable (s ∈ l) := decidable_of_iff ((l.any fun x => decide (x = s)) = true) (by simp)
def basics : List ByteArray := [⟨#[105, 110, 116]⟩, ⟨#[114, 101, 97, 108]⟩, ⟨#[98, 111, 111, 108]⟩, ⟨#[115, 116, 114]⟩, ⟨#[117, 110, 105, 116]⟩, ⟨#[63]⟩]
def isC (t : List C) (s : ByteArray) : Bool := (ix C.name t s).isSome
def isT (t : List C) (s : ByteArray) : Bool := decide (s ∈ basics) || isC t s
def ok (t : List C) : Bool := decide ((check t).1 = 0)
def up (t : List C) (s : ByteArray) : List ByteArray := if isC t s then supers t s else [s]
def ats (t : List C) (s u : ByteArray) : Bool := isT t s && isT t u && ok t
def sub (t : List C) (s u : ByteArray) : Bool := ats t s u && decide (u ∈ up t s)
theorem rnd_zero (f : Nat → Int) : ∀ (n i : Nat), (chkRound f i n).1 = 0 → chkRound f i n = (0, 0)
 | 0, i, _ => rfl
 | n + 1, i, h => by
  have e : chkRound f i (n + 1) = if f i = 0 then chkRound f (i + 1) n else (f i, (i : Int)) := rfl
  rw [e] at h ⊢
  by_cases hz : f i = 0
  ·rw [if_pos hz] at h ⊢; exact rnd_zero f n (i + 1) h
  ·rw [if_neg hz] at h; exact absurd h hz
theorem check_zero {t : List C} (h : (check t).1 = 0) : check t = (0, 0) := by
 unfold check at h ⊢
 by_cases h0 : 40 < t.length
 ·rw [if_pos h0] at h; exact absurd h (by decide)
 ·rw [if_neg h0] at h ⊢
  by_cases h1 : (chkRound (chkHead t) 0 t.length).1 = 0
  ·rw [if_pos h1] at h ⊢
   by_cases h2 : (chkRound (chkSuper t) 0 t.length).1 = 0
   ·rw [if_pos h2] at h ⊢
    exact rnd_zero _ _ _ h
   ·rw [if_neg h2] at h; exact absurd h h2
  ·rw [if_neg h1] at h; exact absurd h h1
theorem ok_valid {t : List C} (h : ok t = true) : Valid t := valid_of (check_zero (of_decide_eq_true h))
theorem isC_at {t : List C} {s : ByteArray} (h : isC t s = true) : ∃ i, i < t.length ∧ s = (nth t i).name := by
 obtain ⟨k, hk⟩ := Option.isSome_iff_exists.1 h
 obtain ⟨h1, h2⟩ := ix_lt hk
 exact ⟨k, h1, by rw [nth_of (List.getElem?_eq_getElem h1)]; exact h2.symm⟩
theorem isT_own {t : List C} {s : ByteArray} (h : s ∈ basics) : isT t s = true := by unfold isT; rw [decide_eq_true h]; rfl
section
variable {t : List C} (hv : Valid t)
include hv
theorem Valid.isC {i : Nat} (hi : i < t.length) : isC t (nth t i).name = true := by unfold Tab.isC; rw [hv.find hi]; rfl
theorem Valid.up_cls {i : Nat} (hi : i < t.length) : up t (nth t i).name = (line t (nth t i).name).map fun k => (nth t k).name := by
 unfold up; rw [hv.isC hi]; rfl
theorem Valid.up_lone {i : Nat} (hi : i < t.length) (h : (nth t i).super = ⟨#[]⟩) : up t (nth t i).name = [(nth t i).name] := by
 rw [hv.up_cls hi, hv.line_cons hi, h, hv.line_empty]; rfl
theorem Valid.up_cons {i k : Nat} (hi : i < t.length) (hk : k < t.length) (h : (nth t i).super = (nth t k).name) : up t (nth t i).name = (nth t i).name :: up t (nth t k).name := by
 rw [hv.up_cls hi, hv.line_cons hi, h, hv.up_cls hk]; rfl
theorem Valid.up_head (s : ByteArray) : ∃ r, up t s = s :: r := by
 cases hc : Tab.isC t s with
 | true =>
  obtain ⟨i, hi, rfl⟩ := isC_at hc
  rw [hv.up_cls hi, hv.line_cons hi]
  exact ⟨_, rfl⟩
 | false => exact ⟨[], by unfold up; rw [hc]; rfl⟩
theorem Valid.up_self (s : ByteArray) : s ∈ up t s := by
 obtain ⟨r, e⟩ := hv.up_head s
 rw [e]; exact List.mem_cons_self ..
omit hv in
end
end Go.Proofs.YthooiofaicdhgaaGreatDoor.Tab
