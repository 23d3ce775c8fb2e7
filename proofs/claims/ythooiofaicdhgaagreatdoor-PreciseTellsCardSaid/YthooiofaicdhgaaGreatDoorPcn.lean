/- Precision in plain words: pairs of types, what a pair of classes asks, the greatest relation that bears it, and what striking out leaves. Plain: what is asked of precision: it is reflexive and goes on, who is below is as precise, and it is told by the members. -/
import Derived.Test.YthooiofaicdhgaaGreatDoorCfn
import Derived.Test.YthooiofaicdhgaaGreatDoorVla
set_option linter.unusedSimpArgs false
set_option linter.unusedVariables false
set_option maxRecDepth 100000
namespace Go.Proofs.YthooiofaicdhgaaGreatDoor.Tab

/-- Two types. -/
abbrev P2 := ByteArray × ByteArray
/-- A pair that holds, whatever members there are. -/
def alw (p : P2) : Bool := decide (p.1 = p.2) || decide (p.2 = ⟨#[63]⟩)
def zipT (l u : List ByteArray) : List P2 := (l.zip u).filter fun p => !alw p
def zip1 (L : List (Mb ByteArray)) (m : Mb ByteArray) : List P2 := match L.find? (fun x => alike x m) with
  | some x => zipT x.types m.types
  | none => []
def zipP (L U : List (Mb ByteArray)) : List P2 := U.flatMap (zip1 L)
/-- What zip tells. -/
def zipR (L U : List (Mb ByteArray)) : List P2 := if hasB L U then zipP L U else []
def TLp (m : Mb ByteArray) : Prop := m.types.length = if m.ar < 0 then 1 else m.ar.toNat + 1
/-- Both are classes. -/
def both (t : List C) (p : P2) : Bool := isC t p.1 && isC t p.2

/-- What is closed in itself. -/
def Clo (t : List C) (F : P2 → Prop) : Prop := ∀ p, F p → both t p = true ∧ hasB (mbs t p.1) (mbs t p.2) = true ∧
  ∀ m ∈ mbs t p.2, ∀ x ∈ mbs t p.1, alike x m = true → ∀ q ∈ zipT x.types m.types, F q
/-- The greatest relation. -/
def Pre (t : List C) (p : P2) : Prop := ∃ F, Clo t F ∧ F p
theorem pre_closed (t : List C) : Clo t (Pre t) := by
  rintro p ⟨F, hF, hp⟩
  obtain ⟨h1, h2, h3⟩ := hF p hp
  exact ⟨h1, h2, fun m hm x hx ha q hq => ⟨F, hF, h3 m hm x hx ha q hq⟩⟩
noncomputable def prec (t : List C) (p : P2) : Bool := @decide (Pre t p) (Classical.propDecidable _)
theorem prec_iff {t : List C} {p : P2} : prec t p = true ↔ Pre t p := by
  unfold prec
  exact @decide_eq_true_iff _ (Classical.propDecidable _)
/-- P8.1 -/
noncomputable def pcs (t : List C) (p : P2) : Bool := alw p || prec t p
noncomputable def precise (t : List C) (s u : ByteArray) : Bool := ats t s u && pcs t (s, u)
noncomputable def same (t : List C) (s u : ByteArray) : Bool := precise t s u && precise t u s
noncomputable def more (t : List C) (s u : ByteArray) : Int := if precise t s u = precise t u s then 0 else if precise t s u then 1 else -1

theorem alike_iff {α : Type} {x m : Mb α} : alike x m = true ↔ x.name = m.name ∧ x.ar = m.ar := by
  unfold alike; simp

/-- The members of classes, by ascending names. -/
structure Cl (t : List C) (ls : ByteArray → List (Mb ByteArray)) : Prop where
  none : ∀ s, isC t s = false → ls s = []
  perm : ∀ s, isC t s = true → (ls s).Perm (mbs t s)
  asc : ∀ s, Asc (ls s)
  tl : ∀ s, ∀ x ∈ ls s, TLp x

def need (ls : ByteArray → List (Mb ByteArray)) (p : P2) : List P2 := zipR (ls p.1) (ls p.2)
def hsv (ls : ByteArray → List (Mb ByteArray)) (p : P2) : Bool := hasB (ls p.1) (ls p.2)

theorem hasB_iff {α : Type} {L U : List (Mb α)} : hasB L U = true ↔ ∀ m ∈ U, ∃ x ∈ L, alike x m = true := by
  unfold hasB
  simp [List.all_eq_true, List.any_eq_true]

theorem asc_unique {α : Type} {L : List (Mb α)} (hA : Asc L) {x y : Mb α} (hx : x ∈ L) (hy : y ∈ L) (e : y.name = x.name) : y = x := by
  obtain ⟨i, hi, rfl⟩ := List.getElem_of_mem hx
  exact asc_eq hA (List.getElem?_eq_getElem hi) hy e

theorem find_alike {L : List (Mb ByteArray)} (hA : Asc L) {x m : Mb ByteArray} (hx : x ∈ L) (ha : alike x m = true) : L.find? (fun x => alike x m) = some x := by
  cases h : L.find? (fun x => alike x m) with
  | none => exact absurd ha (by simpa using List.find?_eq_none.1 h x hx)
  | some y =>
    have h1 := List.find?_some h
    have h2 := List.mem_of_find?_eq_some h
    rw [asc_unique hA hx h2 ((alike_iff.1 h1).1.trans (alike_iff.1 ha).1.symm)]

theorem mem_zipP {L U : List (Mb ByteArray)} (hA : Asc L) {q : P2} : q ∈ zipP L U ↔ ∃ m ∈ U, ∃ x ∈ L, alike x m = true ∧ q ∈ zipT x.types m.types := by
  unfold zipP
  rw [List.mem_flatMap]
  constructor
  · rintro ⟨m, hm, hq⟩
    unfold zip1 at hq
    split at hq
    · rename_i x h
      exact ⟨m, hm, x, List.mem_of_find?_eq_some h, by simpa using List.find?_some (p := fun x => alike x m) h, hq⟩
    · cases hq
  · rintro ⟨m, hm, x, hx, ha, hq⟩
    refine ⟨m, hm, ?_⟩
    unfold zip1
    rw [find_alike hA hx ha]
    exact hq

theorem Cl.hs {t : List C} {ls : ByteArray → List (Mb ByteArray)} (h : Cl t ls) {p : P2} (hb : both t p = true) : hsv ls p = hasB (mbs t p.1) (mbs t p.2) := by
  unfold both at hb
  simp only [Bool.and_eq_true] at hb
  have e1 := h.perm _ hb.1
  have e2 := h.perm _ hb.2
  unfold hsv
  rw [Bool.eq_iff_iff, hasB_iff, hasB_iff]
  constructor
  · intro k m hm
    obtain ⟨x, hx, ha⟩ := k m (e2.mem_iff.2 hm)
    exact ⟨x, e1.mem_iff.1 hx, ha⟩
  · intro k m hm
    obtain ⟨x, hx, ha⟩ := k m (e2.mem_iff.1 hm)
    exact ⟨x, e1.mem_iff.2 hx, ha⟩

theorem Cl.need {t : List C} {ls : ByteArray → List (Mb ByteArray)} (h : Cl t ls) {p : P2} (hb : both t p = true) (hh : hsv ls p = true) {q : P2} : q ∈ need ls p ↔ ∃ m ∈ mbs t p.2, ∃ x ∈ mbs t p.1, alike x m = true ∧ q ∈ zipT x.types m.types := by
  unfold both at hb
  simp only [Bool.and_eq_true] at hb
  have e1 := h.perm _ hb.1
  have e2 := h.perm _ hb.2
  unfold Tab.need zipR
  rw [if_pos (show hasB (ls p.1) (ls p.2) = true from hh), mem_zipP (h.asc _)]
  constructor
  · rintro ⟨m, hm, x, hx, r⟩
    exact ⟨m, e2.mem_iff.1 hm, x, e1.mem_iff.1 hx, r⟩
  · rintro ⟨m, hm, x, hx, r⟩
    exact ⟨m, e2.mem_iff.2 hm, x, e1.mem_iff.2 hx, r⟩

/-- What a pair that holds asks. -/
theorem Cl.pre {t : List C} {ls : ByteArray → List (Mb ByteArray)} (h : Cl t ls) {p : P2} (hp : Pre t p) : both t p = true ∧ hsv ls p = true ∧ ∀ q ∈ Tab.need ls p, Pre t q := by
  obtain ⟨h1, h2, h3⟩ := pre_closed t p hp
  have hh : hsv ls p = true := (h.hs h1).trans h2
  refine ⟨h1, hh, fun q hq => ?_⟩
  obtain ⟨m, hm, x, hx, ha, hq⟩ := (h.need h1 hh).1 hq
  exact h3 m hm x hx ha q hq

/-- A list of pairs that is closed in itself. -/
theorem Cl.closed {t : List C} {ls : ByteArray → List (Mb ByteArray)} (h : Cl t ls) {D : List P2} (h1 : ∀ p ∈ D, both t p = true) (h2 : ∀ p ∈ D, hsv ls p = true ∧ ∀ q ∈ Tab.need ls p, q ∈ D) : ∀ p ∈ D, Pre t p := by
  intro p hp
  refine ⟨(· ∈ D), fun p hp => ?_, hp⟩
  have hb := h1 p hp
  obtain ⟨hh, hn⟩ := h2 p hp
  refine ⟨hb, (h.hs hb).symm.trans hh, fun m hm x hx ha q hq => hn q ((h.need hb hh).2 ⟨m, hm, x, hx, ha, hq⟩)⟩

def inP (D : List P2) (p : P2) : Bool := D.any fun q => decide (q = p)
theorem inP_iff {D : List P2} {p : P2} : inP D p = true ↔ p ∈ D := by unfold inP; simp
theorem inP_no {D : List P2} {p : P2} : inP D p = false ↔ ¬ p ∈ D := by
  rw [← inP_iff]; simp
def offP (D : List P2) (p : P2) : List P2 := D.filter fun q => !decide (q = p)
theorem mem_offP {D : List P2} {p q : P2} : q ∈ offP D p ↔ q ∈ D ∧ ¬ q = p := by unfold offP; simp
theorem offP_no {D : List P2} {p : P2} (h : ¬ p ∈ D) : offP D p = D := by
  unfold offP
  refine List.filter_eq_self.2 fun q hq => ?_
  have : ¬ q = p := fun e => h (e ▸ hq)
  simp [this]
theorem offP_nodup {D : List P2} {p : P2} (h : D.Nodup) : (offP D p).Nodup := h.sublist List.filter_sublist
theorem offP_len : ∀ {D : List P2} {p : P2}, D.Nodup → p ∈ D → (offP D p).length + 1 = D.length
  | [], p, _, h => by cases h
  | a :: r, p, hn, h => by
    obtain ⟨h1, h2⟩ := List.nodup_cons.1 hn
    by_cases e : a = p
    · subst e
      unfold offP
      rw [List.filter_cons]
      simp only [decide_true, Bool.not_true]
      have := offP_no h1
      unfold offP at this
      simp [this]
    · have hr : p ∈ r := by
        rcases List.mem_cons.1 h with h | h
        · exact absurd h.symm e
        · exact h
      have := offP_len h2 hr
      unfold offP at this ⊢
      rw [List.filter_cons]
      simp [e, this]

/-- Of a set of pairs: each that holds asks for nothing but what is in it. -/
def Rel (t : List C) (ls : ByteArray → List (Mb ByteArray)) (K : List P2) : Prop := (∀ p ∈ K, both t p = true) ∧ ∀ p ∈ K, Pre t p → ∀ q ∈ need ls p, q ∈ K
/-- What is left of it: all that holds. -/
def Left (t : List C) (K D : List P2) : Prop := (∀ p ∈ D, p ∈ K) ∧ ∀ p ∈ K, Pre t p → p ∈ D
def okN (ls : ByteArray → List (Mb ByteArray)) (D : List P2) (p : P2) : Bool := hsv ls p && (need ls p).all (inP D)

theorem Left.off {t : List C} {ls : ByteArray → List (Mb ByteArray)} (h : Cl t ls) {K D : List P2} (hK : Rel t ls K) (hL : Left t K D) {p : P2} (hn : okN ls D p = false) : Left t K (offP D p) := by
  refine ⟨fun q hq => hL.1 q (mem_offP.1 hq).1, fun q hq hp => mem_offP.2 ⟨hL.2 q hq hp, ?_⟩⟩
  rintro rfl
  obtain ⟨_, h2, h3⟩ := h.pre hp
  unfold okN at hn
  rw [h2, Bool.true_and, List.all_eq_false] at hn
  obtain ⟨r, hr, hr'⟩ := hn
  exact hr' (inP_iff.2 (hL.2 r (hK.2 q hq hp r hr) (h3 r hr)))

/-- When nothing is struck out any more. -/
theorem Left.end {t : List C} {ls : ByteArray → List (Mb ByteArray)} (h : Cl t ls) {K D : List P2} (hK : Rel t ls K) (hL : Left t K D) (hD : ∀ p ∈ D, okN ls D p = true) {p : P2} (hp : p ∈ K) : inP D p = prec t p := by
  rw [Bool.eq_iff_iff, inP_iff, prec_iff]
  refine ⟨fun hd => ?_, fun hd => hL.2 p hp hd⟩
  refine h.closed (D := D) (fun p hp => hK.1 p (hL.1 p hp)) (fun p hp => ?_) p hd
  have := hD p hp
  unfold okN at this
  simp only [Bool.and_eq_true] at this
  exact ⟨this.1, fun q hq => inP_iff.1 (List.all_eq_true.1 this.2 q hq)⟩
theorem Left.gone {t : List C} {K D : List P2} (hL : Left t K D) {p : P2} (hp : p ∈ K) (hd : ¬ p ∈ D) : prec t p = false := by
  cases h : prec t p with
  | false => rfl
  | true => exact absurd (hL.2 p hp (prec_iff.1 h)) hd

/-- A round's middle: nothing has been struck out and all so far hold, or something has. -/
def Mid (ls : ByteArray → List (Mb ByteArray)) (D0 D : List P2) (ps : List P2) (j : Nat) : Prop := (D = D0 ∧ ∀ p ∈ ps.take j, p ∈ D0 → okN ls D0 p = true) ∨ D.length < D0.length
theorem Mid.start {ls : ByteArray → List (Mb ByteArray)} {D ps : List P2} : Mid ls D D ps 0 := .inl ⟨rfl, fun p h => by simp at h⟩
theorem Mid.keep {ls : ByteArray → List (Mb ByteArray)} {D0 D ps : List P2} {j : Nat} (h : Mid ls D0 D ps j) {p : P2} (hp : ps[j]? = some p) (ho : p ∈ D → okN ls D p = true) : Mid ls D0 D ps (j + 1) := by
  rcases h with ⟨rfl, h⟩ | h
  · refine .inl ⟨rfl, fun q hq hqd => ?_⟩
    rw [List.take_add_one, hp] at hq
    rcases List.mem_append.1 hq with hq | hq
    · exact h q hq hqd
    · simp at hq
      subst hq
      exact ho hqd
  · exact .inr h
theorem Mid.off {ls : ByteArray → List (Mb ByteArray)} {D0 D ps : List P2} {j : Nat} (h : Mid ls D0 D ps j) (hn : D.Nodup) {p : P2} (hd : p ∈ D) : Mid ls D0 (offP D p) ps (j + 1) := by
  have := offP_len hn hd
  rcases h with ⟨rfl, h⟩ | h
  · exact .inr (by omega)
  · exact .inr (by omega)

/-- The list that is gone through: what it holds is closed but for what is yet to come. -/
structure Todo (t : List C) (ls : ByteArray → List (Mb ByteArray)) (asked : P2) (B : Nat) (D todo : List P2) (at' : Nat) : Prop where
  first : todo[0]? = some asked
  have' : ∀ p ∈ todo, both t p = true
  done : ∀ i, i < at' → ∀ p, todo[i]? = some p → p ∈ D
  from' : ∀ p ∈ D, p ∈ todo
  more' : ∀ p ∈ D, (need ls p).all (both t) = true → ∀ q ∈ need ls p, q ∈ todo
  len : todo.length ≤ 1 + B * D.length
theorem Todo.end {t : List C} {ls : ByteArray → List (Mb ByteArray)} (h : Cl t ls) {asked : P2} {B : Nat} {D todo : List P2} (hT : Todo t ls asked B D todo todo.length) : Rel t ls D ∧ asked ∈ D := by
  have hall : ∀ p ∈ todo, p ∈ D := fun p hp => by
    obtain ⟨i, hi, rfl⟩ := List.getElem_of_mem hp
    exact hT.done i hi _ (List.getElem?_eq_getElem hi)
  refine ⟨⟨fun p hp => hT.have' p (hT.from' p hp), fun p hp hpre q hq => hall q (hT.more' p hp ?_ q hq)⟩, hall _ (List.mem_of_getElem? hT.first)⟩
  refine List.all_eq_true.2 fun q hq => ?_
  exact (pre_closed t q ((h.pre hpre).2.2 q hq)).1
theorem Todo.start {t : List C} {ls : ByteArray → List (Mb ByteArray)} {asked : P2} {B : Nat} (h : both t asked = true) : Todo t ls asked B [] [asked] 0 :=
  ⟨rfl, fun p hp => by simp at hp; subst hp; exact h, fun i hi => by omega, fun p hp => (by cases hp), fun p hp => (by cases hp), by simp⟩
theorem Todo.skip {t : List C} {ls : ByteArray → List (Mb ByteArray)} {asked : P2} {B : Nat} {D todo : List P2} {i : Nat} (h : Todo t ls asked B D todo i) {p : P2} (hp : todo[i]? = some p) (hd : p ∈ D) : Todo t ls asked B D todo (i + 1) :=
  ⟨h.first, h.have', fun k hk q hq => by
      by_cases e : k = i
      · subst e
        rw [hp] at hq
        injection hq with hq
        exact hq ▸ hd
      · exact h.done k (by omega) q hq, h.from', h.more', h.len⟩
theorem Todo.put {t : List C} {ls : ByteArray → List (Mb ByteArray)} {asked : P2} {B : Nat} {D todo : List P2} {i : Nat} (h : Todo t ls asked B D todo i) {p : P2} (hp : todo[i]? = some p) (hB : (need ls p).length ≤ B) :
    Todo t ls asked B (D ++ [p]) (if (need ls p).all (both t) then todo ++ need ls p else todo) (i + 1) := by
  have hmem : ∀ q, q ∈ todo → q ∈ (if (need ls p).all (both t) then todo ++ need ls p else todo) := fun q hq => by
    split
    · exact List.mem_append.2 (.inl hq)
    · exact hq
  have hlt : i < todo.length := (List.getElem?_eq_some_iff.1 hp).1
  have hget : ∀ k, k < todo.length → (if (need ls p).all (both t) then todo ++ need ls p else todo)[k]? = todo[k]? := fun k hk => by
    split
    · rw [List.getElem?_append_left hk]
    · rfl
  refine ⟨?_, ?_, ?_, ?_, ?_, ?_⟩
  · rw [hget 0 (by omega)]; exact h.first
  · intro q hq
    by_cases ha : (need ls p).all (both t) = true
    · rw [if_pos ha] at hq
      rcases List.mem_append.1 hq with hq | hq
      · exact h.have' q hq
      · exact List.all_eq_true.1 ha q hq
    · rw [if_neg ha] at hq
      exact h.have' q hq
  · intro k hk q hq
    rw [hget k (by omega)] at hq
    by_cases e : k = i
    · subst e
      rw [hp] at hq
      injection hq with hq
      exact List.mem_append.2 (.inr (by simp [hq]))
    · exact List.mem_append.2 (.inl (h.done k (by omega) q hq))
  · intro q hq
    rcases List.mem_append.1 hq with hq | hq
    · exact hmem q (h.from' q hq)
    · simp at hq
      subst hq
      exact hmem q (List.mem_of_getElem? hp)
  · intro q hq ha r hr
    rcases List.mem_append.1 hq with hq | hq
    · exact hmem r (h.more' q hq ha r hr)
    · simp at hq
      subst hq
      rw [if_pos ha]
      exact List.mem_append.2 (.inr hr)
  · have := h.len
    rw [List.length_append, Nat.mul_add]
    split
    · rw [List.length_append]; simp; omega
    · simp; omega

end Go.Proofs.YthooiofaicdhgaaGreatDoor.Tab

namespace Go.Proofs.YthooiofaicdhgaaGreatDoor.Tab

theorem alw_iff {p : P2} : alw p = true ↔ p.1 = p.2 ∨ p.2 = ⟨#[63]⟩ := by unfold alw; simp
theorem mem_zipT {l u : List ByteArray} {q : P2} : q ∈ zipT l u ↔ (∃ i : Nat, l[i]? = some q.1 ∧ u[i]? = some q.2) ∧ alw q = false := by
  unfold zipT
  rw [List.mem_filter]
  have : q ∈ l.zip u ↔ ∃ i : Nat, l[i]? = some q.1 ∧ u[i]? = some q.2 := by
    rw [List.mem_iff_getElem?]
    constructor
    · rintro ⟨i, hi⟩
      rw [List.getElem?_zip_eq_some] at hi
      exact ⟨i, hi⟩
    · rintro ⟨i, hi⟩
      exact ⟨i, by rw [List.getElem?_zip_eq_some]; exact hi⟩
  rw [this]
  simp

theorem mbs_names (t : List C) (c : ByteArray) : (mbs t c).map Mb.name = (members t c).map (·.1) := by
  unfold mbs members
  simp [List.map_append, List.map_map, Function.comp_def, mbF, mbM]
theorem mbs_told (t : List C) (c : ByteArray) : (mbs t c).map (fun x => (x.name, x.ar)) = members t c := by
  unfold mbs members
  simp only [List.map_append, List.map_map]
  rfl
theorem mbs_tl (t : List C) (c : ByteArray) : ∀ x ∈ mbs t c, TLp x := by
  intro x hx
  unfold mbs at hx
  rcases List.mem_append.1 hx with hx | hx
  · obtain ⟨f, _, rfl⟩ := List.mem_map.1 hx
    rfl
  · obtain ⟨m, _, rfl⟩ := List.mem_map.1 hx
    unfold TLp mbM
    simp
    omega
theorem mbs_unique {t : List C} (hv : Valid t) {c : ByteArray} (hc : isC t c = true) {x y : Mb ByteArray} (hx : x ∈ mbs t c) (hy : y ∈ mbs t c) (e : x.name = y.name) : x = y := by
  obtain ⟨i, hi, rfl⟩ := isC_at hc
  have := (hv.good hi).names
  rw [← mbs_names] at this
  exact nodup_eq Mb.name this hx hy e

theorem dyn_no {t : List C} (hv : Valid t) : isC t ⟨#[63]⟩ = false := by
  cases h : isC t ⟨#[63]⟩ with
  | false => rfl
  | true =>
    obtain ⟨i, hi, e⟩ := isC_at h
    have := hv.cls hi
    rw [← e] at this
    exact absurd this (by decide +kernel)

theorem pre_both {t : List C} {p : P2} (h : Pre t p) : both t p = true := (pre_closed t p h).1
theorem both_iff {t : List C} {p : P2} : both t p = true ↔ isC t p.1 = true ∧ isC t p.2 = true := by unfold both; simp
theorem tl_same {x m : Mb ByteArray} (hx : TLp x) (hm : TLp m) (e : x.ar = m.ar) : x.types.length = m.types.length := by
  unfold TLp at hx hm
  rw [hx, hm, e]

theorem pcs_self (t : List C) (s : ByteArray) : pcs t (s, s) = true := by unfold pcs alw; simp
theorem pcs_dyn (t : List C) (s : ByteArray) : pcs t (s, ⟨#[63]⟩) = true := by unfold pcs alw; simp
theorem pcs_iff {t : List C} {p : P2} : pcs t p = true ↔ alw p = true ∨ Pre t p := by
  unfold pcs
  rw [Bool.or_eq_true, prec_iff]

theorem pre_trans {t : List C} (hv : Valid t) {a b c : ByteArray} (h1 : Pre t (a, b)) (h2 : Pre t (b, c)) : Pre t (a, c) := by
  refine ⟨fun p => Pre t p ∨ ∃ b, Pre t (p.1, b) ∧ Pre t (b, p.2), ?_, .inr ⟨b, h1, h2⟩⟩
  clear h1 h2 a b c
  rintro ⟨a, c⟩ (h | ⟨b, h1, h2⟩)
  · obtain ⟨q1, q2, q3⟩ := pre_closed t _ h
    exact ⟨q1, q2, fun m hm x hx ha q hq => .inl (q3 m hm x hx ha q hq)⟩
  · obtain ⟨b1, s1, n1⟩ := pre_closed t _ h1
    obtain ⟨b2, s2, n2⟩ := pre_closed t _ h2
    rw [both_iff] at b1 b2
    rw [hasB_iff] at s1 s2
    refine ⟨both_iff.2 ⟨b1.1, b2.2⟩, hasB_iff.2 fun m hm => ?_, fun m hm x hx ha q hq => ?_⟩
    · obtain ⟨y, hy, hya⟩ := s2 m hm
      obtain ⟨x, hx, hxa⟩ := s1 y hy
      refine ⟨x, hx, ?_⟩
      rw [alike_iff] at hya hxa ⊢
      exact ⟨hxa.1.trans hya.1, hxa.2.trans hya.2⟩
    · obtain ⟨y, hy, hya⟩ := s2 m hm
      obtain ⟨x', hx', hxa⟩ := s1 y hy
      have ha' := alike_iff.1 ha
      have hya' := alike_iff.1 hya
      have hxa' := alike_iff.1 hxa
      obtain rfl : x' = x := mbs_unique hv b1.1 hx' hx (hxa'.1.trans (hya'.1.trans ha'.1.symm))
      obtain ⟨⟨i, hi1, hi2⟩, hna⟩ := mem_zipT.1 hq
      have hil : i < y.types.length := by
        rw [← tl_same (mbs_tl t _ _ hx) (mbs_tl t _ _ hy) hxa'.2]
        exact (List.getElem?_eq_some_iff.1 hi1).1
      have hiy : y.types[i]? = some y.types[i] := List.getElem?_eq_getElem hil
      generalize y.types[i] = z at hiy
      have hna' : ¬ (q.1 = q.2 ∨ q.2 = ⟨#[63]⟩) := fun h => by rw [alw_iff.2 h] at hna; cases hna
      cases e1 : alw (q.1, z) with
      | true =>
        rcases alw_iff.1 e1 with e | e
        · have e : q.1 = z := e
          subst e
          refine .inl ?_
          have := n2 m hm y hy hya (q.1, q.2) (mem_zipT.2 ⟨⟨i, hiy, hi2⟩, hna⟩)
          exact this
        · have e : z = ⟨#[63]⟩ := e
          subst e
          have hz : alw (⟨#[63]⟩, q.2) = false := by
            cases h : alw (⟨#[63]⟩, q.2) with
            | false => rfl
            | true =>
              rcases alw_iff.1 h with e | e
              · exact absurd (.inr e.symm) hna'
              · exact absurd (.inr e) hna'
          have := pre_both (n2 m hm y hy hya (⟨#[63]⟩, q.2) (mem_zipT.2 ⟨⟨i, hiy, hi2⟩, hz⟩))
          rw [both_iff, show isC t (⟨#[63]⟩ : ByteArray) = false from dyn_no hv] at this
          exact absurd this.1 (by simp)
      | false =>
        have p1 := n1 y hy x' hx hxa (q.1, z) (mem_zipT.2 ⟨⟨i, hi1, hiy⟩, e1⟩)
        cases e2 : alw (z, q.2) with
        | true =>
          rcases alw_iff.1 e2 with e | e
          · have e : z = q.2 := e
            subst e
            exact .inl p1
          · exact absurd (.inr e) hna'
        | false => exact .inr ⟨z, p1, n2 m hm y hy hya (z, q.2) (mem_zipT.2 ⟨⟨i, hiy, hi2⟩, e2⟩)⟩

theorem pcs_trans {t : List C} (hv : Valid t) {a b c : ByteArray} (h1 : pcs t (a, b) = true) (h2 : pcs t (b, c) = true) : pcs t (a, c) = true := by
  rw [pcs_iff] at h1 h2 ⊢
  rcases h1 with h1 | h1
  · rcases alw_iff.1 h1 with e | e
    · have e : a = b := e
      subst e; exact h2
    · have e : b = ⟨#[63]⟩ := e
      subst e
      rcases h2 with h2 | h2
      · rcases alw_iff.1 h2 with e | e
        · have e : (⟨#[63]⟩ : ByteArray) = c := e
          exact .inl (alw_iff.2 (.inr e.symm))
        · exact .inl (alw_iff.2 (.inr e))
      · have := pre_both h2
        rw [both_iff, show isC t (⟨#[63]⟩ : ByteArray) = false from dyn_no hv] at this
        exact absurd this.1 (by simp)
  · rcases h2 with h2 | h2
    · rcases alw_iff.1 h2 with e | e
      · have e : b = c := e
        subst e; exact .inr h1
      · exact .inl (alw_iff.2 (.inr e))
    · exact .inr (pre_trans hv h1 h2)

/-- A superclass' member is the class' member, with the same types. -/
theorem mbs_step {t : List C} (hv : Valid t) {i : Nat} (hi : i < t.length) {m : Mb ByteArray} (hm : m ∈ mbs t (nth t i).super) : ∃ x ∈ mbs t (nth t i).name, alike x m = true ∧ x.types = m.types := by
  have hst := (hv.step hi (hv.good_sup hi)).2
  unfold mbs at hm
  rcases List.mem_append.1 hm with hm | hm
  · refine ⟨m, ?_, alike_iff.2 ⟨rfl, rfl⟩, rfl⟩
    unfold mbs
    rw [hv.fields_eq hi, List.map_append]
    exact List.mem_append.2 (.inl (List.mem_append.2 (.inl hm)))
  · obtain ⟨f, hf, rfl⟩ := List.mem_map.1 hm
    obtain ⟨g, hg, hn, hs⟩ := hst f hf
    have hmem : mbM g ∈ mbs t (nth t i).name := List.mem_append.2 (.inr (List.mem_map.2 ⟨g, hg, rfl⟩))
    rcases hs with rfl | hs
    · exact ⟨_, hmem, alike_iff.2 ⟨rfl, rfl⟩, rfl⟩
    · unfold sameSig at hs
      rw [Bool.and_eq_true] at hs
      obtain ⟨hr, ht⟩ := hs
      have hr := of_decide_eq_true hr
      have hl := sameTys_length ht
      have hp : g.params.map (·.typ) = f.params.map (·.typ) := by
        unfold sameTys at ht
        rw [Bool.and_eq_true, List.all_eq_true] at ht
        refine List.ext_getElem (by simp [hl]) fun k h1 h2 => ?_
        have hk1 : k < g.params.length := by simpa using h1
        have hk2 : k < f.params.length := by simpa using h2
        have := ht.2 (f.params[k], g.params[k]) (by
          rw [List.mem_iff_getElem?]
          exact ⟨k, by rw [List.getElem?_zip_eq_some]; exact ⟨List.getElem?_eq_getElem hk2, List.getElem?_eq_getElem hk1⟩⟩)
        simp only [List.getElem_map]
        exact (of_decide_eq_true this).symm
      refine ⟨_, hmem, alike_iff.2 ⟨hn, ?_⟩, ?_⟩
      · show (g.params.length : Int) = f.params.length
        rw [hl]
      · show g.params.map (·.typ) ++ [g.res] = f.params.map (·.typ) ++ [f.res]
        rw [hp, hr]

theorem mbs_up {t : List C} (hv : Valid t) {u : ByteArray} : ∀ i, i < t.length → u ∈ up t (nth t i).name → ∀ m ∈ mbs t u, ∃ x ∈ mbs t (nth t i).name, alike x m = true ∧ x.types = m.types := by
  refine hv.induct (P := fun i => u ∈ up t (nth t i).name → ∀ m ∈ mbs t u, ∃ x ∈ mbs t (nth t i).name, alike x m = true ∧ x.types = m.types) ?_ ?_
  · intro i hi h hs m hm
    rw [hv.up_lone hi h] at hs
    obtain rfl := List.mem_singleton.1 hs
    exact ⟨m, hm, alike_iff.2 ⟨rfl, rfl⟩, rfl⟩
  · intro i k hi hk h ih hs m hm
    rw [hv.up_cons hi hk h] at hs
    rcases List.mem_cons.1 hs with rfl | hs
    · exact ⟨m, hm, alike_iff.2 ⟨rfl, rfl⟩, rfl⟩
    · obtain ⟨x, hx, ha, ht⟩ := ih hs m hm
      rw [← h] at hx
      obtain ⟨y, hy, hya, hyt⟩ := mbs_step hv hi hx
      rw [alike_iff] at ha hya
      exact ⟨y, hy, alike_iff.2 ⟨hya.1.trans ha.1, hya.2.trans ha.2⟩, hyt.trans ht⟩

theorem zipT_self (l : List ByteArray) : zipT l l = [] := by
  refine List.eq_nil_iff_forall_not_mem.2 fun q hq => ?_
  obtain ⟨⟨i, h1, h2⟩, hn⟩ := mem_zipT.1 hq
  rw [h1] at h2
  injection h2 with h2
  rw [alw_iff.2 (.inl h2)] at hn
  cases hn

theorem pre_up {t : List C} (hv : Valid t) {s u : ByteArray} (hs : isC t s = true) (hu : isC t u = true) (h : u ∈ up t s) : Pre t (s, u) := by
  refine ⟨fun p => both t p = true ∧ p.2 ∈ up t p.1, ?_, both_iff.2 ⟨hs, hu⟩, h⟩
  clear hs hu h s u
  rintro ⟨s, u⟩ ⟨hb, h⟩
  have h : u ∈ up t s := h
  have hb' := both_iff.1 hb
  obtain ⟨i, hi, hn⟩ := isC_at hb'.1
  have hn : s = (nth t i).name := hn
  subst hn
  refine ⟨hb, hasB_iff.2 fun m hm => ?_, fun m hm x hx ha q hq => ?_⟩
  · obtain ⟨x, hx, ha, _⟩ := mbs_up hv i hi h m hm
    exact ⟨x, hx, ha⟩
  · obtain ⟨y, hy, hya, hyt⟩ := mbs_up hv i hi h m hm
    obtain rfl : y = x := mbs_unique hv hb'.1 hy hx ((alike_iff.1 hya).1.trans (alike_iff.1 ha).1.symm)
    rw [hyt, zipT_self] at hq
    cases hq

theorem pcs_sub {t : List C} {s u : ByteArray} (h : sub t s u = true) : pcs t (s, u) = true := by
  unfold sub at h
  rw [Bool.and_eq_true] at h
  obtain ⟨ha, hu⟩ := h
  have hu := of_decide_eq_true hu
  have ho : ok t = true := by unfold ats at ha; simp only [Bool.and_eq_true] at ha; exact ha.2
  have hv := ok_valid ho
  rw [pcs_iff]
  cases hs : isC t s with
  | false =>
    unfold up at hu
    rw [hs] at hu
    have : u = s := List.mem_singleton.1 hu
    exact .inl (alw_iff.2 (.inl this.symm))
  | true =>
    refine .inr (pre_up hv hs ?_ hu)
    obtain ⟨i, hi, rfl⟩ := isC_at hs
    rw [hv.up_cls hi] at hu
    obtain ⟨k, hk, rfl⟩ := List.mem_map.1 hu
    exact hv.isC ((lineF_nodup t _ _ _).2 k hk).2

/-- A pair of classes holds just if its members do. -/
theorem prec_members {t : List C} (hv : Valid t) {s u : ByteArray} (hs : isC t s = true) (hu : isC t u = true) :
    pcs t (s, u) = true ↔ ∀ m ∈ mbs t u, ∃ x ∈ mbs t s, alike x m = true ∧ ∀ (i : Nat) a b, x.types[i]? = some a → m.types[i]? = some b → pcs t (a, b) = true := by
  constructor
  · intro h m hm
    rcases pcs_iff.1 h with h | h
    · rcases alw_iff.1 h with e | e
      · have e : s = u := e
        subst e
        refine ⟨m, hm, alike_iff.2 ⟨rfl, rfl⟩, fun i a b h1 h2 => ?_⟩
        rw [h1] at h2
        injection h2 with h2
        rw [h2]; exact pcs_self t _
      · have e : u = ⟨#[63]⟩ := e
        rw [e, dyn_no hv] at hu
        cases hu
    · obtain ⟨_, h2, h3⟩ := pre_closed t _ h
      obtain ⟨x, hx, ha⟩ := hasB_iff.1 h2 m hm
      refine ⟨x, hx, ha, fun i a b h1 h2 => ?_⟩
      cases e : alw (a, b) with
      | true => exact pcs_iff.2 (.inl e)
      | false => exact pcs_iff.2 (.inr (h3 m hm x hx ha (a, b) (mem_zipT.2 ⟨⟨i, h1, h2⟩, e⟩)))
  · intro h
    refine pcs_iff.2 (.inr ⟨fun p => Pre t p ∨ p = (s, u), ?_, .inr rfl⟩)
    rintro p (hp | rfl)
    · obtain ⟨q1, q2, q3⟩ := pre_closed t _ hp
      exact ⟨q1, q2, fun m hm x hx ha q hq => .inl (q3 m hm x hx ha q hq)⟩
    · refine ⟨both_iff.2 ⟨hs, hu⟩, hasB_iff.2 fun m hm => ?_, fun m hm x hx ha q hq => ?_⟩
      · obtain ⟨x, hx, ha, _⟩ := h m hm
        exact ⟨x, hx, ha⟩
      · obtain ⟨y, hy, hya, hyt⟩ := h m hm
        obtain rfl : y = x := mbs_unique hv hs hy hx ((alike_iff.1 hya).1.trans (alike_iff.1 ha).1.symm)
        obtain ⟨⟨i, h1, h2⟩, hn⟩ := mem_zipT.1 hq
        have := pcs_iff.1 (hyt i q.1 q.2 h1 h2)
        rcases this with this | this
        · have e : alw q = true := this
          rw [hn] at e; cases e
        · exact .inl this

theorem kind_typ {t : List C} {s : ByteArray} (h : chkType t s = 0) : isT t s = true := by
  unfold chkType at h
  unfold isT isC
  by_cases h0 : Wrd.kind s = 0
  · rw [if_pos h0] at h; cases h
  · rw [if_neg h0] at h
    unfold Wrd.kind at h0 h
    by_cases hb : Wrd.base s = true
    · have : s ∈ basics := by
        unfold Wrd.base Wrd.has Wrd.bs at hb
        simp at hb
        unfold basics
        simp
        rcases hb with e | e | e | e | e <;> subst e <;> simp
      rw [decide_eq_true this]; rfl
    · rw [if_neg hb] at h0 h
      by_cases hd : s = ⟨#[63]⟩
      · have : s ∈ basics := by unfold basics; simp [hd]
        rw [decide_eq_true this]; rfl
      · rw [if_neg hd] at h0 h
        by_cases hc : Wrd.cls s = true
        · rw [if_pos hc, if_pos rfl] at h
          by_cases hi : (ix C.name t s).isSome = true
          · rw [hi]; simp
          · rw [if_neg hi] at h; cases h
        · rw [if_neg hc] at h0; exact absurd rfl h0

theorem var_typ {t : List C} {x : V} (h : chkVar t x = 0) : isT t x.typ = true := by
  unfold chkVar at h
  split at h
  · exact kind_typ h
  · cases h
theorem ps_typ {t : List C} : ∀ (l pre : List V), chkPs t pre l = 0 → ∀ x ∈ l, isT t x.typ = true
  | [], _, _, x, hx => by cases hx
  | p :: r, pre, h, x, hx => by
    unfold chkPs at h
    by_cases h1 : chkVar t p = 0
    · rw [if_pos h1] at h
      by_cases h2 : (ix V.name pre p.name).isSome = true
      · rw [if_pos h2] at h; cases h
      · rw [if_neg h2] at h
        rcases List.mem_cons.1 hx with rfl | hx
        · exact var_typ h1
        · exact ps_typ r _ h x hx
    · rw [if_neg h1] at h; exact absurd h h1
theorem sig_typ {t : List C} {m : M} (h : chkSig t m = 0) : (∀ p ∈ m.params, isT t p.typ = true) ∧ isT t m.res = true := by
  unfold chkSig at h
  by_cases h1 : Wrd.name m.name = true
  · rw [if_pos h1] at h
    by_cases h2 : chkPs t [] m.params = 0
    · rw [if_pos h2] at h
      exact ⟨ps_typ _ _ h2, kind_typ h⟩
    · rw [if_neg h2] at h; exact absurd h h2
  · rw [if_neg h1] at h; cases h
theorem fs_typ {t : List C} : ∀ (l : List V) (h h' : Held), chkFs t h l = (0, h') → ∀ f ∈ l, isT t f.typ = true
  | [], _, _, _, f, hf => by cases hf
  | x :: r, h, h', e, f, hf => by
    unfold chkFs at e
    by_cases h1 : chkVar t x = 0
    · rw [if_pos h1] at e
      by_cases h2 : (h x.name).isSome = true
      · rw [if_pos h2] at e; injection e with e _; cases e
      · rw [if_neg h2] at e
        rcases List.mem_cons.1 hf with rfl | hf
        · exact var_typ h1
        · exact fs_typ r _ _ e f hf
    · rw [if_neg h1] at e; injection e with e _; exact absurd e h1
theorem ms_typ {t : List C} : ∀ (l : List M) (h : Held), chkMs t h l = 0 → ∀ m ∈ l, (∀ p ∈ m.params, isT t p.typ = true) ∧ isT t m.res = true
  | [], _, _, m, hm => by cases hm
  | x :: r, h, e, m, hm => by
    unfold chkMs at e
    by_cases h1 : chkSig t x = 0
    · rw [if_pos h1] at e
      by_cases h2 : chkM1 h x = 0
      · rw [if_pos h2] at e
        rcases List.mem_cons.1 hm with rfl | hm
        · exact sig_typ h1
        · exact ms_typ r _ e m hm
      · rw [if_neg h2] at e; exact absurd e h2
    · rw [if_neg h1] at e; exact absurd e h1

theorem field_typ {t : List C} (hv : Valid t) {c : ByteArray} {f : V} (hf : f ∈ fields t c) : isT t f.typ = true := by
  unfold fields at hf
  obtain ⟨i, hi, hf⟩ := List.mem_flatMap.1 hf
  have hi := line_lt (List.mem_reverse.1 hi)
  obtain ⟨h1, e1, _⟩ := hv.mem hi
  exact fs_typ _ _ _ e1 f hf
theorem foldA_mem {x : M} : ∀ (ms l : List M), x ∈ ms.foldl addM l → x ∈ ms ∨ x ∈ l
  | [], l, h => .inr h
  | m :: r, l, h => by
    rcases foldA_mem r _ h with h | h
    · exact .inl (List.mem_cons_of_mem _ h)
    · unfold addM at h
      split at h
      · rcases List.mem_or_eq_of_mem_set h with h | h
        · exact .inr h
        · exact .inl (h ▸ List.mem_cons_self ..)
      · rcases List.mem_append.1 h with h | h
        · exact .inr h
        · simp at h; exact .inl (h ▸ List.mem_cons_self ..)
theorem meth_typ {t : List C} (hv : Valid t) {c : ByteArray} {m : M} (hm : m ∈ methods t c) : (∀ p ∈ m.params, isT t p.typ = true) ∧ isT t m.res = true := by
  unfold methods at hm
  rcases foldA_mem _ _ hm with hm | hm
  · obtain ⟨i, hi, hm⟩ := List.mem_flatMap.1 hm
    have hi := line_lt (List.mem_reverse.1 hi)
    obtain ⟨h1, _, e2⟩ := hv.mem hi
    exact ms_typ _ _ e2 m hm
  · cases hm

end Go.Proofs.YthooiofaicdhgaaGreatDoor.Tab
