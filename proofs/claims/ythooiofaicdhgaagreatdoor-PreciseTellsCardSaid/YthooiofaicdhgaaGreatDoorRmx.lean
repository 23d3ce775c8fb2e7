/- The document's greatest relations in plain words: a matrix of pairs of classes out of which is struck what the members do not bear; what it leaves at its end is what goes, and what is as precise. A matrix of bools of one's own in memory: a slice of slices; and the striking out of pairs, in plain words. The document's own answers about precision (chaperonref08): holds, members. -/
import Derived.Test.YthooiofaicdhgaaGreatDoorPcn
import Derived.Test.YthooiofaicdhgaaGreatDoorRma
import Derived.StillTailTactics
set_option linter.unusedSimpArgs false
set_option linter.unusedVariables false
set_option maxRecDepth 100000
namespace Go.Proofs.YthooiofaicdhgaaGreatDoor.Tab

theorem all_mem {α : Type} {p q : α → Bool} : ∀ {l : List α}, (∀ x ∈ l, p x = q x) → l.all p = l.all q
  | [], _ => rfl
  | x :: l, h => by
    rw [List.all_cons, List.all_cons, h x (List.mem_cons_self ..), all_mem fun y hy => h y (List.mem_cons_of_mem _ hy)]
theorem any_one {α : Type} {p : α → Bool} {l : List α} {x : α} (hx : x ∈ l) (h : ∀ y ∈ l, p y = true → p x = true) : l.any p = p x := by
  rw [Bool.eq_iff_iff, List.any_eq_true]
  exact ⟨fun ⟨y, hy, e⟩ => h y hy e, fun e => ⟨x, hx, e⟩⟩

/-- What a class' field, and method, of a name is. -/
def fdD (t : List C) (s nm : ByteArray) : ByteArray := (field t s nm).getD ⟨#[]⟩
def mtD (t : List C) (s nm : ByteArray) : M := ((method t s nm).map Prod.fst).getD ⟨⟨#[]⟩, [], ⟨#[]⟩⟩
def gF (R : ByteArray → ByteArray → Bool) (t : List C) (s : ByteArray) (f : V) : Bool := R (fdD t s f.name) f.typ && R f.typ (fdD t s f.name)
def gM (R : ByteArray → ByteArray → Bool) (t : List C) (s : ByteArray) (m : M) : Bool := R (mtD t s m.name).res m.res && ((mtD t s m.name).params.zip m.params).all fun p => R p.2.typ p.1.typ
def hoR (R : ByteArray → ByteArray → Bool) (t : List C) (s u : ByteArray) : Bool := hasB (mbs t s) (mbs t u) && ((fields t u).all (gF R t s) && (methods t u).all (gM R t s))

theorem isC_good {t : List C} (hv : Valid t) {c : ByteArray} (h : isC t c = true) : Good t c := by
  obtain ⟨i, hi, rfl⟩ := isC_at h
  exact hv.good hi

theorem alike_fld {t : List C} (hv : Valid t) {s : ByteArray} (hs : isC t s = true) {x : Mb ByteArray} {f : V} (hx : x ∈ mbs t s) (ha : alike x (mbF f) = true) : x.types = [fdD t s f.name] := by
  have g := isC_good hv hs
  obtain ⟨e1, e2⟩ := alike_iff.1 ha
  unfold mbs at hx
  rcases List.mem_append.1 hx with hx | hx
  · obtain ⟨y, hy, rfl⟩ := List.mem_map.1 hx
    have e1 : y.name = f.name := e1
    unfold fdD
    rw [← e1, g.fd y hy]
    rfl
  · obtain ⟨y, hy, rfl⟩ := List.mem_map.1 hx
    have e2 : (y.params.length : Int) = -1 := e2
    omega

theorem alike_mth {t : List C} (hv : Valid t) {s : ByteArray} (hs : isC t s = true) {x : Mb ByteArray} {q : M} (hx : x ∈ mbs t s) (ha : alike x (mbM q) = true) : x.types = (mtD t s q.name).params.map (·.typ) ++ [(mtD t s q.name).res] ∧ (mtD t s q.name).params.length = q.params.length := by
  have g := isC_good hv hs
  obtain ⟨e1, e2⟩ := alike_iff.1 ha
  unfold mbs at hx
  rcases List.mem_append.1 hx with hx | hx
  · obtain ⟨y, hy, rfl⟩ := List.mem_map.1 hx
    have e2 : (-1 : Int) = (q.params.length : Int) := e2
    omega
  · obtain ⟨y, hy, rfl⟩ := List.mem_map.1 hx
    have e1 : y.name = q.name := e1
    have e2 : (y.params.length : Int) = (q.params.length : Int) := e2
    obtain ⟨j, _, h⟩ := g.md y hy
    have e : mtD t s q.name = y := by unfold mtD; rw [← e1, h]; rfl
    rw [e]
    exact ⟨rfl, by omega⟩

theorem okAt_mth (R : ByteArray → ByteArray → Bool) (n : Nat) (a b : ByteArray) : ∀ (l u : List V) (i : Nat), l.length = u.length → i + l.length = n → okAt R (n : Int) i (l.map (·.typ) ++ [a]) (u.map (·.typ) ++ [b]) = (R a b && (l.zip u).all fun p => R p.2.typ p.1.typ)
  | [], [], i, _, h => by
    have : i = n := by simpa using h
    subst this
    simp [okAt, okP, fwd, bwd]
  | x :: l, y :: u, i, h1, h2 => by
    have hlt : (i : Int) < (n : Int) := by simp at h2; omega
    have hn : ¬ (n : Int) < 0 := by omega
    rw [List.map_cons, List.map_cons, List.cons_append, List.cons_append, okAt, okAt_mth R n a b l u (i + 1) (by simpa using h1) (by simp at h2; omega)]
    have e : okP R (n : Int) i x.typ y.typ = R y.typ x.typ := by
      unfold okP fwd bwd
      rw [decide_eq_true hlt, decide_eq_false hn]
      simp
    rw [e, List.zip_cons_cons, List.all_cons]
    cases R y.typ x.typ <;> cases R a b <;> simp
  | [], _ :: _, _, h, _ => by simp at h
  | _ :: _, [], _, h, _ => by simp at h

theorem okM_fld {t : List C} (hv : Valid t) {s : ByteArray} (hs : isC t s = true) (R : ByteArray → ByteArray → Bool) {x : Mb ByteArray} {f : V} (hx : x ∈ mbs t s) (ha : alike x (mbF f) = true) : okM R x (mbF f) = gF R t s f := by
  unfold okM
  rw [alike_fld hv hs hx ha]
  unfold gF mbF
  simp [okAt, okP, fwd, bwd]
theorem okM_mth {t : List C} (hv : Valid t) {s : ByteArray} (hs : isC t s = true) (R : ByteArray → ByteArray → Bool) {x : Mb ByteArray} {q : M} (hx : x ∈ mbs t s) (ha : alike x (mbM q) = true) : okM R x (mbM q) = gM R t s q := by
  obtain ⟨e1, e2⟩ := alike_mth hv hs hx ha
  unfold okM
  rw [e1]
  exact okAt_mth R q.params.length _ _ _ _ 0 e2 (by omega)

theorem hoR_holds {t : List C} (hv : Valid t) {s u : ByteArray} (hs : isC t s = true) (R : ByteArray → ByteArray → Bool) : hoR R t s u = holds R (mbs t s) (mbs t u) := by
  cases hb : hasB (mbs t s) (mbs t u) with
  | false =>
    have e : holds R (mbs t s) (mbs t u) = false := by
      cases h : holds R (mbs t s) (mbs t u) with
      | false => rfl
      | true => rw [holds_hasB h] at hb; cases hb
    rw [e]
    unfold hoR
    rw [hb]
    rfl
  | true =>
    have hB := hasB_iff.1 hb
    unfold hoR holds
    rw [hb, Bool.true_and]
    unfold mbs at hB ⊢
    rw [List.all_append, List.all_map, List.all_map]
    congr 1
    · refine all_mem fun f hf => ?_
      obtain ⟨x, hx, ha⟩ := hB (mbF f) (List.mem_append_left _ (List.mem_map.2 ⟨f, hf, rfl⟩))
      have hx' : x ∈ mbs t s := hx
      have := any_one (p := fun y => alike y (mbF f) && okM R y (mbF f)) hx fun y hy e => by
        simp only [Bool.and_eq_true] at e ⊢
        refine ⟨ha, ?_⟩
        rw [okM_fld hv hs R hx' ha, ← okM_fld hv hs R (show y ∈ mbs t s from hy) e.1]
        exact e.2
      show _ = List.any _ _
      rw [this]
      show gF R t s f = (alike x (mbF f) && okM R x (mbF f))
      rw [ha, okM_fld hv hs R hx' ha, Bool.true_and]
    · refine all_mem fun f hf => ?_
      obtain ⟨x, hx, ha⟩ := hB (mbM f) (List.mem_append_right _ (List.mem_map.2 ⟨f, hf, rfl⟩))
      have hx' : x ∈ mbs t s := hx
      have := any_one (p := fun y => alike y (mbM f) && okM R y (mbM f)) hx fun y hy e => by
        simp only [Bool.and_eq_true] at e ⊢
        refine ⟨ha, ?_⟩
        rw [okM_mth hv hs R hx' ha, ← okM_mth hv hs R (show y ∈ mbs t s from hy) e.1]
        exact e.2
      show _ = List.any _ _
      rw [this]
      show gM R t s f = (alike x (mbM f) && okM R x (mbM f))
      rw [ha, okM_mth hv hs R hx' ha, Bool.true_and]

theorem okAt_map {α β : Type} (f : α → β) (R : β → β → Bool) (ar : Int) : ∀ (i : Nat) (l u : List α), okAt R ar i (l.map f) (u.map f) = okAt (fun a b => R (f a) (f b)) ar i l u
  | i, [], u => by simp [okAt]
  | i, a :: l, [] => by simp [okAt]
  | i, a :: l, b :: u => by
    rw [List.map_cons, List.map_cons, okAt, okAt, okAt_map f R ar (i + 1) l u]
    rfl
theorem holds_map {α β : Type} (f : α → β) (R : β → β → Bool) (L U : List (Mb α)) : holds R (L.map (Mb.map f)) (U.map (Mb.map f)) = holds (fun a b => R (f a) (f b)) L U := by
  unfold holds
  rw [List.all_map]
  refine all_mem fun m _ => ?_
  show (L.map (Mb.map f)).any _ = _
  rw [List.any_map]
  congr 1
  funext x
  show (alike (Mb.map f x) (Mb.map f m) && okM R (Mb.map f x) (Mb.map f m)) = _
  unfold okM Mb.map
  rw [okAt_map]
  rfl

theorem okAt_monoT {R Q : ByteArray → ByteArray → Bool} {T : ByteArray → Prop} (h : ∀ a b, T a → T b → R a b = true → Q a b = true) {ar : Int} : ∀ {i : Nat} {l u : List ByteArray}, (∀ a ∈ l, T a) → (∀ a ∈ u, T a) → okAt R ar i l u = true → okAt Q ar i l u = true
  | i, [], u, _, _, _ => by unfold okAt; rfl
  | i, a :: l, [], _, _, _ => by unfold okAt; rfl
  | i, a :: l, b :: u, hl, hu, hg => by
    unfold okAt at hg ⊢
    simp only [Bool.and_eq_true] at hg ⊢
    refine ⟨?_, okAt_monoT h (fun x hx => hl x (List.mem_cons_of_mem _ hx)) (fun x hx => hu x (List.mem_cons_of_mem _ hx)) hg.2⟩
    have ha := hl a (List.mem_cons_self ..)
    have hb := hu b (List.mem_cons_self ..)
    have hg := hg.1
    unfold okP at hg ⊢
    simp only [Bool.or_eq_true, Bool.and_eq_true] at hg ⊢
    exact ⟨hg.1.imp_right (h _ _ ha hb), hg.2.imp_right (h _ _ hb ha)⟩
theorem holds_monoT {R Q : ByteArray → ByteArray → Bool} {T : ByteArray → Prop} (h : ∀ a b, T a → T b → R a b = true → Q a b = true) {l u : List (Mb ByteArray)} (hl : ∀ x ∈ l, ∀ a ∈ x.types, T a) (hu : ∀ x ∈ u, ∀ a ∈ x.types, T a) (hg : holds R l u = true) : holds Q l u = true := by
  unfold holds at hg ⊢
  rw [List.all_eq_true] at hg ⊢
  intro m hm
  have := hg m hm
  rw [List.any_eq_true] at this ⊢
  obtain ⟨x, hx, e⟩ := this
  refine ⟨x, hx, ?_⟩
  simp only [Bool.and_eq_true] at e ⊢
  exact ⟨e.1, okAt_monoT h (hl x hx) (hu m hm) e.2⟩

theorem mbs_isT {t : List C} (hv : Valid t) (c : ByteArray) : ∀ x ∈ mbs t c, ∀ a ∈ x.types, isT t a = true := by
  intro x hx a ha
  unfold mbs at hx
  rcases List.mem_append.1 hx with hx | hx
  · obtain ⟨f, hf, rfl⟩ := List.mem_map.1 hx
    obtain rfl : a = f.typ := by simpa [mbF] using ha
    exact field_typ hv hf
  · obtain ⟨m, hm, rfl⟩ := List.mem_map.1 hx
    have ha : a ∈ m.params.map (·.typ) ++ [m.res] := ha
    rcases List.mem_append.1 ha with ha | ha
    · obtain ⟨p, hp, rfl⟩ := List.mem_map.1 ha
      exact (meth_typ hv hm).1 p hp
    · obtain rfl : a = m.res := by simpa using ha
      exact (meth_typ hv hm).2

/-- The numbers of types that are no classes. -/
def nb (s : ByteArray) : Int := if s = ⟨#[63]⟩ then -1 else if s = ⟨#[105, 110, 116]⟩ then -2 else if s = ⟨#[114, 101, 97, 108]⟩ then -3 else if s = ⟨#[98, 111, 111, 108]⟩ then -4 else if s = ⟨#[115, 116, 114]⟩ then -5 else if s = ⟨#[117, 110, 105, 116]⟩ then -6 else 0
theorem nb_neg : ∀ a ∈ basics, nb a < 0 := by decide +kernel
theorem nb_dyn : ∀ a ∈ basics, nb a = -1 → a = ⟨#[63]⟩ := by decide +kernel
theorem nb_inj : ∀ a ∈ basics, ∀ b ∈ basics, nb a = nb b → a = b := by decide +kernel
theorem isC_dyn {t : List C} (hv : Valid t) : isC t ⟨#[63]⟩ = false := by
  cases h : isC t ⟨#[63]⟩ with
  | false => rfl
  | true =>
    obtain ⟨i, hi, e⟩ := isC_at h
    have := hv.cls hi
    rw [← e] at this
    exact absurd this (by decide +kernel)
theorem at_isC {t : List C} {s : ByteArray} : isC t s = true ↔ ∃ i, at' t s = some i := by
  unfold isC at'
  rw [Option.isSome_iff_exists]
theorem at_no {t : List C} {s : ByteArray} (h : isC t s = false) : at' t s = none := by
  unfold isC at h
  unfold at'
  cases e : ix C.name t s with
  | none => rfl
  | some _ => rw [e] at h; cases h
theorem at_nth {t : List C} {s : ByteArray} {i : Nat} (h : at' t s = some i) : i < t.length ∧ s = (nth t i).name := by
  obtain ⟨hl, hn⟩ := ix_lt h
  exact ⟨hl, by rw [nth_of (List.getElem?_eq_getElem hl)]; exact hn.symm⟩
theorem numOf_at {t : List C} {s : ByteArray} {i : Nat} (h : at' t s = some i) : numOf t s = i := by unfold numOf; rw [h]
theorem numOf_no {t : List C} {s : ByteArray} (h : at' t s = none) : numOf t s = nb s := by unfold numOf; rw [h]; rfl

/-- A type is a class, or one of the six. -/
theorem isT_or' {t : List C} {s : ByteArray} (h : isT t s = true) : (∃ i, at' t s = some i) ∨ (at' t s = none ∧ s ∈ basics) := by
  cases hc : isC t s with
  | true => exact .inl (at_isC.1 hc)
  | false =>
    right
    refine ⟨at_no hc, ?_⟩
    unfold isT at h
    rw [hc, Bool.or_false] at h
    exact of_decide_eq_true h

/-- A type goes to another one, as far as is known of pairs of classes. -/
def goG (t : List C) (P : Nat → Nat → Bool) (s u : ByteArray) : Bool := decide (s = ⟨#[63]⟩) || decide (u = ⟨#[63]⟩) || decide (u ∈ up t s) || (match at' t s, at' t u with
  | some i, some k => P i k
  | _, _ => false)

theorem up_cls' {t : List C} (hv : Valid t) {s u : ByteArray} (h : u ∈ up t s) : u = s ∨ (isC t s = true ∧ isC t u = true) := by
  cases hc : isC t s with
  | false =>
    unfold up at h
    rw [hc] at h
    exact .inl (List.mem_singleton.1 h)
  | true =>
    right
    refine ⟨rfl, ?_⟩
    obtain ⟨i, hi, rfl⟩ := isC_at hc
    rw [hv.up_cls hi] at h
    obtain ⟨k, hk, rfl⟩ := List.mem_map.1 h
    exact hv.isC ((lineF_nodup t _ _ _).2 k hk).2

theorem goesN_goG {t : List C} (hv : Valid t) {F P : Nat → Nat → Bool} (h : ∀ i k, i < t.length → k < t.length → F i k = true → P i k = true) {a b : ByteArray} (ha : isT t a = true) (hb : isT t b = true) (hg : goesN F (numOf t a) (numOf t b) = true) : goG t P a b = true := by
  unfold goesN at hg
  unfold goG
  simp only [Bool.or_eq_true, Bool.and_eq_true, decide_eq_true_eq] at hg ⊢
  rcases isT_or' ha with ⟨i, hi⟩ | ⟨hi, hia⟩
  · rcases isT_or' hb with ⟨k, hk⟩ | ⟨hk, hkb⟩
    · rw [numOf_at hi, numOf_at hk] at hg
      rw [hi, hk]
      obtain ⟨hi1, hi2⟩ := at_nth hi
      obtain ⟨hk1, hk2⟩ := at_nth hk
      rcases hg with ((hg | hg) | hg) | hg
      · left; right
        have : i = k := by omega
        subst this
        rw [hk2, ← hi2]
        exact hv.up_self _
      · omega
      · omega
      · right
        have := h i k hi1 hk1 (by simpa using hg.2)
        exact this
    · rw [numOf_at hi, numOf_no hk] at hg
      have := nb_neg b hkb
      rcases hg with ((hg | hg) | hg) | hg
      · omega
      · omega
      · exact .inl (.inl (.inr (nb_dyn b hkb hg)))
      · omega
  · rw [numOf_no hi] at hg
    have := nb_neg a hia
    rcases hg with ((hg | hg) | hg) | hg
    · rcases isT_or' hb with ⟨k, hk⟩ | ⟨hk, hkb⟩
      · rw [numOf_at hk] at hg; omega
      · rw [numOf_no hk] at hg
        have := nb_inj a hia b hkb hg
        subst this
        exact .inl (.inr (hv.up_self _))
    · exact .inl (.inl (.inl (nb_dyn a hia hg)))
    · rcases isT_or' hb with ⟨k, hk⟩ | ⟨hk, hkb⟩
      · rw [numOf_at hk] at hg; omega
      · rw [numOf_no hk] at hg
        exact .inl (.inl (.inr (nb_dyn b hkb hg)))
    · omega

theorem shpsN {t : List C} {i : Nat} (h : i < t.length) : shN (shps t) i = (mbs t (nth t i).name).map (Mb.map (numOf t)) := by
  unfold shN shps shp
  rw [List.getD_eq_getElem?_getD, List.getElem?_map, of_nth h]
  rfl
theorem shps_l (t : List C) : (shps t).length = t.length := by unfold shps; simp

/-- A pair that goes is not struck out while no pair that goes is. -/
theorem goG_keep {t : List C} (hv : Valid t) {P : Nat → Nat → Bool} (hP : ∀ i k, i < t.length → k < t.length → inL (gfp (shps t)) i k = true → P i k = true) {i k : Nat} (hi : i < t.length) (hk : k < t.length) (h : inL (gfp (shps t)) i k = true) :
    hoR (goG t P) t (nth t i).name (nth t k).name = true := by
  obtain ⟨_, _, _, h4⟩ := gfp_closed (shps t) i k h
  rw [shpsN hi, shpsN hk, holds_map] at h4
  rw [hoR_holds hv (hv.isC hi)]
  exact holds_monoT (T := fun a => isT t a = true) (fun a b ha hb e => goesN_goG hv hP ha hb e) (mbs_isT hv _) (mbs_isT hv _) h4

theorem okAt_self {R : ByteArray → ByteArray → Bool} (h : ∀ a, R a a = true) (ar : Int) : ∀ (i : Nat) (l : List ByteArray), okAt R ar i l l = true
  | i, [] => by unfold okAt; rfl
  | i, a :: l => by
    unfold okAt okP
    rw [h a, okAt_self h ar (i + 1) l]
    simp

theorem goG_goesN {t : List C} (hv : Valid t) {P : Nat → Nat → Bool} {F : Nat → Nat → Bool} (hF : ∀ i k, i < t.length → k < t.length → (P i k = true ∨ (nth t k).name ∈ up t (nth t i).name) → F i k = true) {a b : ByteArray} (hg : goG t P a b = true) : goesN F (numOf t a) (numOf t b) = true := by
  unfold goG at hg
  unfold goesN
  simp only [Bool.or_eq_true, Bool.and_eq_true, decide_eq_true_eq] at hg ⊢
  have dyn : numOf t ⟨#[63]⟩ = -1 := by rw [numOf_no (at_no (isC_dyn hv))]; decide +kernel
  rcases hg with ((hg | hg) | hg) | hg
  · rw [hg, dyn]; simp
  · rw [hg, dyn]; simp
  · rcases up_cls' hv hg with e | ⟨e1, e2⟩
    · rw [e]; simp
    · right
      obtain ⟨i, hi⟩ := at_isC.1 e1
      obtain ⟨k, hk⟩ := at_isC.1 e2
      obtain ⟨hi1, hi2⟩ := at_nth hi
      obtain ⟨hk1, hk2⟩ := at_nth hk
      rw [numOf_at hi, numOf_at hk]
      refine ⟨⟨by omega, by omega⟩, ?_⟩
      rw [Int.toNat_natCast, Int.toNat_natCast]
      refine hF i k hi1 hk1 (.inr ?_)
      rw [← hi2, ← hk2]
      exact hg
  · cases hi : at' t a with
    | none => rw [hi] at hg; cases hg
    | some i =>
      cases hk : at' t b with
      | none => rw [hi, hk] at hg; cases hg
      | some k =>
        rw [hi, hk] at hg
        rw [numOf_at hi, numOf_at hk]
        exact .inr ⟨⟨by omega, by omega⟩, hF _ _ (at_nth hi).1 (at_nth hk).1 (.inl hg)⟩

/-- What is left at the end goes. -/
theorem goG_end {t : List C} (hv : Valid t) {P : Nat → Nat → Bool} (hE : ∀ i k, i < t.length → k < t.length → P i k = true → (nth t k).name ∈ up t (nth t i).name ∨ hoR (goG t P) t (nth t i).name (nth t k).name = true) {i k : Nat} (hi : i < t.length) (hk : k < t.length) (h : P i k = true) : inL (gfp (shps t)) i k = true := by
  let F : Nat → Nat → Bool := fun i k => (decide (i < t.length) && decide (k < t.length)) && (P i k || decide ((nth t k).name ∈ up t (nth t i).name))
  have hFi : ∀ i k, i < t.length → k < t.length → (P i k = true ∨ (nth t k).name ∈ up t (nth t i).name) → F i k = true := by
    intro i k hi hk h
    show ((decide (i < t.length) && decide (k < t.length)) && (P i k || decide ((nth t k).name ∈ up t (nth t i).name))) = true
    rw [decide_eq_true hi, decide_eq_true hk]
    rcases h with h | h
    · rw [h]; rfl
    · rw [decide_eq_true h]; simp
  have hC : Closed (shps t) F := by
    intro i k hF
    have hF : ((decide (i < t.length) && decide (k < t.length)) && (P i k || decide ((nth t k).name ∈ up t (nth t i).name))) = true := hF
    simp only [Bool.or_eq_true, Bool.and_eq_true, decide_eq_true_eq] at hF
    obtain ⟨⟨hi, hk⟩, hF⟩ := hF
    have key : holds (goesN F) (shN (shps t) i) (shN (shps t) k) = true := by
      rw [shpsN hi, shpsN hk, holds_map]
      have hup : (nth t k).name ∈ up t (nth t i).name → holds (fun a b => goesN F (numOf t a) (numOf t b)) (mbs t (nth t i).name) (mbs t (nth t k).name) = true := by
        intro hu
        unfold holds
        rw [List.all_eq_true]
        intro m hm
        obtain ⟨x, hx, ha, ht⟩ := mbs_up hv i hi hu m hm
        rw [List.any_eq_true]
        refine ⟨x, hx, ?_⟩
        unfold okM
        rw [ha, ht, okAt_self (fun a => by unfold goesN; simp)]
        rfl
      rcases hF with hF | hF
      · rcases hE i k hi hk hF with hF | hF
        · exact hup hF
        · rw [hoR_holds hv (hv.isC hi)] at hF
          exact holds_mono (fun a b e => goG_goesN hv hFi e) hF
      · exact hup hF
    exact ⟨by rw [shps_l]; exact hi, by rw [shps_l]; exact hk, holds_hasB key, key⟩
  unfold inL
  exact decide_eq_true (gfp_greatest hC (hFi i k hi hk (.inl h)))

theorem ats_true {t : List C} (ho : ok t = true) {s u : ByteArray} (hs : isT t s = true) (hu : isT t u = true) : ats t s u = true := by
  unfold ats; rw [hs, hu, ho]; rfl

/-- P7.2 by the matrix. -/
theorem goG_goes {t : List C} (ho : ok t = true) {P : Nat → Nat → Bool} (hP : ∀ i k, i < t.length → k < t.length → P i k = inL (gfp (shps t)) i k) {s u : ByteArray} (hs : isT t s = true) (hu : isT t u = true) : goes t s u = goG t P s u := by
  have hv := ok_valid ho
  unfold goes goG
  by_cases h1 : s = ⟨#[63]⟩
  · rw [if_pos h1, ats_true ho hu hu, decide_eq_true h1]; simp
  · rw [if_neg h1]
    by_cases h2 : u = ⟨#[63]⟩
    · rw [if_pos h2, ats_true ho hs hs, decide_eq_true h2]; simp
    · rw [if_neg h2, decide_eq_false h1, decide_eq_false h2]
      have e1 : sub t s u = decide (u ∈ up t s) := by unfold sub; rw [ats_true ho hs hu]; rfl
      rw [e1]
      by_cases h3 : u ∈ up t s
      · rw [decide_eq_true h3]; simp
      · rw [decide_eq_false h3, Bool.or_false, Bool.or_false, Bool.false_or]
        unfold has
        cases hi : at' t s with
        | none =>
          have : isC t s = false := by cases h : isC t s with
            | false => rfl
            | true => obtain ⟨i, e⟩ := at_isC.1 h; rw [hi] at e; cases e
          rw [this]; rfl
        | some i =>
          cases hk : at' t u with
          | none =>
            have : isC t u = false := by cases h : isC t u with
              | false => rfl
              | true => obtain ⟨i, e⟩ := at_isC.1 h; rw [hk] at e; cases e
            rw [this]; simp
          | some k =>
            obtain ⟨hi1, hi2⟩ := at_nth hi
            obtain ⟨hk1, hk2⟩ := at_nth hk
            have hik : ¬ (i : Int) = (k : Int) := by
              intro e
              have : i = k := by omega
              subst this
              exact h3 (by rw [hk2, ← hi2]; exact hv.up_self _)
            rw [at_isC.2 ⟨i, hi⟩, at_isC.2 ⟨k, hk⟩, ho, numOf_at hi, numOf_at hk]
            simp only [hP i k hi1 hk1, Bool.true_and, Bool.false_or]
            have hg : goesN (inL (gfp (shps t))) (i : Int) (k : Int) = inL (gfp (shps t)) i k := by
              unfold goesN
              rw [decide_eq_false hik]
              simp <;> omega
            rw [hg]
            cases hq : inL (gfp (shps t)) i k with
            | false => simp
            | true =>
              have := (gfp_start (show (i, k) ∈ gfp (shps t) from of_decide_eq_true hq)).2.2
              rw [shpsN hi1, shpsN hk1, ← hi2, ← hk2] at this
              unfold shp
              rw [this]
              rfl

/-! P8.1 by a matrix -/
def hoP (t : List C) (P : Nat → Nat → Bool) (s u : ByteArray) : Bool := decide (s = u) || decide (u = ⟨#[63]⟩) || (match at' t s, at' t u with
  | some i, some k => P i k
  | _, _ => false)
/-- What is asked of a class for another one's member. -/
def mokB (R : ByteArray → ByteArray → Bool) (t : List C) (s : ByteArray) (m : Mb ByteArray) : Bool := (mbs t s).any fun x => alike x m && (x.types.zip m.types).all fun q => R q.1 q.2
def hoM (R : ByteArray → ByteArray → Bool) (t : List C) (s u : ByteArray) : Bool := (mbs t u).all (mokB R t s)

theorem hoP_alw {t : List C} {P : Nat → Nat → Bool} {q : P2} (h : alw q = true) : hoP t P q.1 q.2 = true := by
  unfold hoP
  unfold alw at h
  rw [h]; rfl
theorem hoP_keep {t : List C} (hv : Valid t) {P : Nat → Nat → Bool} (hP : ∀ i k, i < t.length → k < t.length → Pre t ((nth t i).name, (nth t k).name) → P i k = true) {i k : Nat} (hi : i < t.length) (hk : k < t.length) (h : Pre t ((nth t i).name, (nth t k).name)) :
    hoM (hoP t P) t (nth t i).name (nth t k).name = true := by
  obtain ⟨h1, h2, h3⟩ := pre_closed t _ h
  unfold hoM
  rw [List.all_eq_true]
  intro m hm
  obtain ⟨x, hx, ha⟩ := hasB_iff.1 h2 m hm
  unfold mokB
  rw [List.any_eq_true]
  refine ⟨x, hx, ?_⟩
  rw [ha, Bool.true_and, List.all_eq_true]
  intro q hq
  cases hal : alw q with
  | true => exact hoP_alw hal
  | false =>
    have hz : q ∈ zipT x.types m.types := by
      unfold zipT
      rw [List.mem_filter]
      exact ⟨hq, by rw [hal]; rfl⟩
    have hp := h3 m hm x hx ha q hz
    obtain ⟨hb1, hb2⟩ := both_iff.1 (pre_both hp)
    obtain ⟨a, ea⟩ := at_isC.1 hb1
    obtain ⟨b, eb⟩ := at_isC.1 hb2
    obtain ⟨ha1, ha2⟩ := at_nth ea
    obtain ⟨hb1, hb2⟩ := at_nth eb
    unfold hoP
    rw [ea, eb]
    simp only [Bool.or_eq_true]
    right
    refine hP a b ha1 hb1 ?_
    rw [← ha2, ← hb2]
    exact hp
theorem hoP_end {t : List C} (hv : Valid t) {P : Nat → Nat → Bool} (hE : ∀ i k, i < t.length → k < t.length → P i k = true → hoM (hoP t P) t (nth t i).name (nth t k).name = true) {i k : Nat} (hi : i < t.length) (hk : k < t.length) (h : P i k = true) : Pre t ((nth t i).name, (nth t k).name) := by
  refine ⟨fun p => ∃ i k, i < t.length ∧ k < t.length ∧ p = ((nth t i).name, (nth t k).name) ∧ P i k = true, ?_, i, k, hi, hk, rfl, h⟩
  rintro p ⟨i, k, hi, hk, rfl, hp⟩
  have hM := hE i k hi hk hp
  unfold hoM at hM
  rw [List.all_eq_true] at hM
  refine ⟨both_iff.2 ⟨hv.isC hi, hv.isC hk⟩, hasB_iff.2 fun m hm => ?_, ?_⟩
  · have := hM m hm
    unfold mokB at this
    rw [List.any_eq_true] at this
    obtain ⟨x, hx, e⟩ := this
    simp only [Bool.and_eq_true] at e
    exact ⟨x, hx, e.1⟩
  · intro m hm x hx ha q hq
    have := hM m hm
    unfold mokB at this
    rw [List.any_eq_true] at this
    obtain ⟨y, hy, e⟩ := this
    simp only [Bool.and_eq_true] at e
    have hyx : y = x := mbs_unique hv (hv.isC hi) hy hx (by rw [(alike_iff.1 e.1).1, (alike_iff.1 ha).1])
    subst hyx
    unfold zipT at hq
    rw [List.mem_filter] at hq
    have hq2 := List.all_eq_true.1 e.2 q hq.1
    have hal : alw q = false := by simpa using hq.2
    unfold hoP at hq2
    unfold alw at hal
    rw [hal, Bool.false_or] at hq2
    cases ea : at' t q.1 with
    | none => rw [ea] at hq2; cases hq2
    | some a =>
      cases eb : at' t q.2 with
      | none => rw [ea, eb] at hq2; cases hq2
      | some b =>
        rw [ea, eb] at hq2
        obtain ⟨ha1, ha2⟩ := at_nth ea
        obtain ⟨hb1, hb2⟩ := at_nth eb
        exact ⟨a, b, ha1, hb1, by rw [← ha2, ← hb2], hq2⟩
theorem hoP_precise {t : List C} (ho : ok t = true) {P : Nat → Nat → Bool} (hP : ∀ i k, i < t.length → k < t.length → (P i k = true ↔ Pre t ((nth t i).name, (nth t k).name))) {s u : ByteArray} (hs : isT t s = true) (hu : isT t u = true) : precise t s u = hoP t P s u := by
  unfold precise pcs hoP
  rw [ats_true ho hs hu, Bool.true_and]
  unfold alw
  congr 1
  rw [Bool.eq_iff_iff, prec_iff]
  constructor
  · intro h
    obtain ⟨hb1, hb2⟩ := both_iff.1 (pre_both h)
    obtain ⟨a, ea⟩ := at_isC.1 hb1
    obtain ⟨b, eb⟩ := at_isC.1 hb2
    have ea : at' t s = some a := ea
    have eb : at' t u = some b := eb
    obtain ⟨ha1, ha2⟩ := at_nth ea
    obtain ⟨hb1, hb2⟩ := at_nth eb
    rw [ea, eb]
    refine (hP a b ha1 hb1).2 ?_
    rw [← ha2, ← hb2]
    exact h
  · intro h
    cases ea : at' t s with
    | none => rw [ea] at h; cases h
    | some a =>
      cases eb : at' t u with
      | none => rw [ea, eb] at h; cases h
      | some b =>
        rw [ea, eb] at h
        obtain ⟨ha1, ha2⟩ := at_nth ea
        obtain ⟨hb1, hb2⟩ := at_nth eb
        have := (hP a b ha1 hb1).1 h
        rw [← ha2, ← hb2] at this
        exact this

/-! Matrices: how many pairs are left, and striking one out. -/
def offM (P : Nat → Nat → Bool) (i k : Nat) : Nat → Nat → Bool := fun a b => if a = i ∧ b = k then false else P a b
def cntM (n : Nat) (P : Nat → Nat → Bool) : Nat := ((sqr n).filter fun p => P p.1 p.2).length
theorem cnt_le (n : Nat) (P : Nat → Nat → Bool) : cntM n P ≤ n * n := by
  unfold cntM
  rw [← sqr_length]
  exact List.length_filter_le _ _
theorem filter_lt {α : Type} {p q : α → Bool} (hpq : ∀ x, q x = true → p x = true) {x : α} (hp : p x = true) (hq : q x = false) : ∀ {l : List α}, x ∈ l → (l.filter q).length < (l.filter p).length
  | y :: l, h => by
    have hle : ∀ l : List α, (l.filter q).length ≤ (l.filter p).length := fun l => by
      induction l with
      | nil => exact Nat.le_refl _
      | cons z l ih =>
        rw [List.filter_cons, List.filter_cons]
        cases hz : q z with
        | true => rw [hpq z hz]; simpa using ih
        | false =>
          cases p z with
          | true => simp; omega
          | false => simpa using ih
    rw [List.filter_cons, List.filter_cons]
    rcases List.mem_cons.1 h with e | e
    · subst e
      rw [hp, hq]
      have := hle l
      simp
      omega
    · have ih := filter_lt hpq hp hq (l := l) e
      cases hz : q y with
      | true => rw [hpq y hz]; simpa using ih
      | false =>
        cases p y with
        | true => simp; omega
        | false => simpa using ih
theorem cnt_off {n : Nat} {P : Nat → Nat → Bool} {i k : Nat} (hi : i < n) (hk : k < n) (h : P i k = true) : cntM n (offM P i k) < cntM n P := by
  unfold cntM
  refine filter_lt (p := fun p => P p.1 p.2) (q := fun p => offM P i k p.1 p.2) (x := (i, k)) (fun x hx => ?_) h (by simp [offM]) (mem_sqr.2 ⟨hi, hk⟩)
  unfold offM at hx
  split at hx
  · cases hx
  · exact hx

end Go.Proofs.YthooiofaicdhgaaGreatDoor.Tab

namespace Go.Proofs.YthooiofaicdhgaaGreatDoor
open Go.ChangeShapes Go.WideShapes Go.ChangeAt Go.RowKit

namespace Tab
/-- A pass over all pairs: either nothing has been struck out of P, and what has been looked at is borne; or there is less. -/
def MdG (Q : (Nat → Nat → Bool) → Nat → Nat → Prop) (n : Nat) (P P' : Nat → Nat → Bool) (ag : Bool) (done : Nat → Nat → Prop) : Prop :=
  (ag = false ∧ P' = P ∧ ∀ i k, done i k → P i k = true → Q P i k) ∨ (ag = true ∧ cntM n P' < cntM n P)
theorem MdG.start {Q : (Nat → Nat → Bool) → Nat → Nat → Prop} {n : Nat} {P : Nat → Nat → Bool} {done : Nat → Nat → Prop} (h : ∀ i k, ¬ done i k) : MdG Q n P P false done := .inl ⟨rfl, rfl, fun i k hd => absurd hd (h i k)⟩
theorem MdG.keep {Q : (Nat → Nat → Bool) → Nat → Nat → Prop} {n : Nat} {P P' : Nat → Nat → Bool} {ag : Bool} {done done' : Nat → Nat → Prop} (h : MdG Q n P P' ag done) (hd : ∀ i k, done' i k → done i k ∨ (P' i k = true → Q P' i k)) : MdG Q n P P' ag done' := by
  rcases h with ⟨h1, h2, h3⟩ | h
  · refine .inl ⟨h1, h2, fun i k hdk hp => ?_⟩
    rcases hd i k hdk with e | e
    · exact h3 i k e hp
    · rw [h2] at e; exact e hp
  · exact .inr h
theorem MdG.off {Q : (Nat → Nat → Bool) → Nat → Nat → Prop} {n : Nat} {P P' : Nat → Nat → Bool} {ag : Bool} {done done' : Nat → Nat → Prop} (h : MdG Q n P P' ag done) {i k : Nat} (hi : i < n) (hk : k < n) (hp : P' i k = true) : MdG Q n P (offM P' i k) true done' := by
  have hc := cnt_off hi hk hp
  rcases h with ⟨_, h2, _⟩ | ⟨_, h2⟩
  · rw [h2] at hc ⊢; exact .inr ⟨rfl, hc⟩
  · exact .inr ⟨rfl, by omega⟩
theorem MdG.end {Q : (Nat → Nat → Bool) → Nat → Nat → Prop} {n : Nat} {P P' : Nat → Nat → Bool} {ag : Bool} {done : Nat → Nat → Prop} (h : MdG Q n P P' ag done) (hd : ∀ i k, i < n → k < n → done i k) : 2 * cntM n P' + (if ag = true then 1 else 0) < 2 * cntM n P + 1 ∧ (ag = false → ∀ i k, i < n → k < n → P' i k = true → Q P' i k) := by
  rcases h with ⟨h1, h2, h3⟩ | ⟨h1, h2⟩
  · subst h1 h2
    exact ⟨by simp, fun _ i k hi hk hp => h3 i k (hd i k hi hk) hp⟩
  · subst h1
    exact ⟨by simp; omega, fun e => by cases e⟩
theorem keep_off {K : Nat → Nat → Prop} {n : Nat} {P : Nat → Nat → Bool} {i k : Nat} (h : ∀ a b, a < n → b < n → K a b → P a b = true) (hn : ¬ K i k) : ∀ a b, a < n → b < n → K a b → offM P i k a b = true := by
  intro a b ha hb hk
  unfold offM
  rw [if_neg]
  · exact h a b ha hb hk
  · rintro ⟨rfl, rfl⟩
    exact hn hk
end Tab

/-- A matrix that can be read. -/
def MatV (n : Nat) (P : Nat → Nat → Bool) (v : Value) (W : World) : Prop :=
  ∃ a c, v = .slice a n c ∧ n ≤ c ∧ c ≤ maxLen ∧ ∀ i, i < n → ∃ b rb, a = some ⟨b, 0, none⟩ ∧ W.cell? ⟨b, i, none⟩ = some (.slice (some ⟨rb, 0, none⟩) n n) ∧ ∀ k, k < n → W.cell? ⟨rb, k, none⟩ = some (.bool (P i k))
theorem MatV.kept {n : Nat} {P : Nat → Nat → Bool} {v : Value} {W W' : World} (h : MatV n P v W) (k : Kept W W') : MatV n P v W' := by
  obtain ⟨a, c, e, h1, h2, h3⟩ := h
  refine ⟨a, c, e, h1, h2, fun i hi => ?_⟩
  obtain ⟨b, rb, e1, e2, e3⟩ := h3 i hi
  exact ⟨b, rb, e1, k.cell e2, fun q hq => k.cell (e3 q hq)⟩

def rowV (n : Nat) (b : Nat) : Value := .slice (some ⟨b, 0, none⟩) n n
def RowB (base n : Nat) (f : Nat → Bool) (b : Nat) (W : World) : Prop := base ≤ b ∧ ∃ cs : Array Value, Blk W b 4 cs ∧ cs.size = n ∧ ∀ k, k < n → cs[k]? = some (.bool (f k))
theorem RowB.only {base n b : Nat} {f : Nat → Bool} {S : Nat → Prop} {W W' : World} (h : RowB base n f b W) (o : Only S W W') (hs : ¬ S b) : RowB base n f b W' := by
  obtain ⟨h1, cs, h2, h3⟩ := h
  exact ⟨h1, cs, h2.only o hs, h3⟩
theorem RowB.lt {base n b : Nat} {f : Nat → Bool} {W : World} (h : RowB base n f b W) : b < W.heap.size := by
  obtain ⟨_, cs, h2, _⟩ := h
  exact h2.lt
theorem RowB.cell {base n b : Nat} {f : Nat → Bool} {W : World} (h : RowB base n f b W) {k : Nat} (hk : k < n) : W.cell? ⟨b, k, none⟩ = some (.bool (f k)) := by
  obtain ⟨_, cs, h2, _, h4⟩ := h
  rw [h2.cell k]
  exact h4 k hk
theorem RowB.frz {base n b : Nat} {f : Nat → Bool} {W : World} (h : RowB base n f b W) (k : Nat) : W.frozen? ⟨b, k, none⟩ = false := by
  obtain ⟨_, cs, h2, _⟩ := h
  exact h2.frozen k
theorem RowB.congr {base n b : Nat} {f g : Nat → Bool} {W : World} (h : RowB base n f b W) (e : ∀ k, k < n → f k = g k) : RowB base n g b W := by
  obtain ⟨h1, cs, h2, h3, h4⟩ := h
  exact ⟨h1, cs, h2, h3, fun k hk => by rw [← e k hk]; exact h4 k hk⟩
theorem RowB.set {base n b : Nat} {f g : Nat → Bool} {W : World} (h : RowB base n f b W) {k : Nat} (hk : k < n) (x : Bool) (e : ∀ q, q < n → g q = if q = k then x else f q) : RowB base n g b (W.setCell ⟨b, k, none⟩ (.bool x)) := by
  obtain ⟨h1, cs, h2, h3, h4⟩ := h
  refine ⟨h1, _, h2.put k (.bool x), by simpa using h3, fun q hq => ?_⟩
  rw [Array.getElem?_setIfInBounds]
  by_cases hqk : k = q
  · subst hqk
    rw [if_pos rfl, if_pos (by omega), e k hq, if_pos rfl]
  · rw [if_neg hqk, h4 q hq, e q hq, if_neg (fun e => hqk e.symm)]

/-- A matrix of one's own. -/
def MatB (base n : Nat) (bs : List Nat) (P : Nat → Nat → Bool) (v : Value) (W : World) : Prop :=
  W.ownsRow base 175 1 v bs.length (bs.map (rowV n)) ∧ bs.Nodup ∧ ∀ i b, bs[i]? = some b → RowB base n (P i) b W
theorem MatB.nb {base n b i : Nat} {bs : List Nat} {P : Nat → Nat → Bool} {v : Value} {W : World} (h : MatB base n bs P v W) (hb : bs[i]? = some b) : v.ownBlock ≠ some b := by
  obtain ⟨_, cs, h2, _⟩ := h.2.2 i b hb
  exact ne_row_blk h2 (by decide) h.1
theorem MatB.only {base n : Nat} {bs : List Nat} {P : Nat → Nat → Bool} {v : Value} {S : Nat → Prop} {W W' : World} (h : MatB base n bs P v W) (o : Only S W W') (h1 : ∀ g, v.ownBlock = some g → ¬ S g) (h2 : ∀ b ∈ bs, ¬ S b) : MatB base n bs P v W' :=
  ⟨own_only h.1 o h1, h.2.1, fun i b hb => (h.2.2 i b hb).only o (h2 b (List.mem_of_getElem? hb))⟩
theorem MatB.keep {base n : Nat} {bs : List Nat} {P : Nat → Nat → Bool} {v : Value} {W W' : World} (h : MatB base n bs P v W) (k : Kept W W') : MatB base n bs P v W' :=
  h.only (S := fun _ => False) (Only.of_kept k) (fun _ _ h => h) (fun _ _ h => h)
theorem MatB.view {base n : Nat} {bs : List Nat} {P : Nat → Nat → Bool} {v : Value} {W : World} (h : MatB base n bs P v W) (hl : bs.length = n) : MatV n P v W := by
  rcases h.1.2 with ⟨rfl, h0⟩ | ⟨g, cap, cur, rfl, hg1, hg2, hg3, hg4, hg5, hg6⟩
  · rw [hl] at h0
    subst h0
    exact ⟨none, 0, rfl, Nat.le_refl _, Nat.zero_le _, fun i hi => by omega⟩
  · refine ⟨some ⟨g, 0, none⟩, cap, by rw [hl], by omega, hg4, fun i hi => ?_⟩
    have hb : bs[i]? = some bs[i] := List.getElem?_eq_getElem (by omega)
    refine ⟨g, bs[i], rfl, ?_, fun k hk => (h.2.2 i _ hb).cell hk⟩
    have := h.1.cells (g := g) rfl i (rowV n bs[i]) (by rw [List.getElem?_map, hb]; rfl)
    rw [addr_plain] at this
    simpa [rowV] using this
theorem MatB.at {base n i : Nat} {bs : List Nat} {P : Nat → Nat → Bool} {v : Value} {W : World} (h : MatB base n bs P v W) (hl : bs.length = n) (hi : i < n) : ∃ g c b, v = .slice (some ⟨g, 0, none⟩) n c ∧ n ≤ c ∧ c ≤ maxLen ∧ bs[i]? = some b ∧ W.cell? ⟨g, i, none⟩ = some (.slice (some ⟨b, 0, none⟩) n n) ∧ RowB base n (P i) b W := by
  rcases h.1.2 with ⟨rfl, h0⟩ | ⟨g, cap, cur, rfl, hg1, hg2, hg3, hg4, hg5, hg6⟩
  · omega
  · have hb : bs[i]? = some bs[i] := List.getElem?_eq_getElem (by omega)
    refine ⟨g, cap, bs[i], by rw [hl], by omega, hg4, hb, ?_, h.2.2 i _ hb⟩
    have := h.1.cells (g := g) rfl i (rowV n bs[i]) (by rw [List.getElem?_map, hb]; rfl)
    rw [addr_plain] at this
    simpa [rowV] using this
theorem MatB.off {base n i k b : Nat} {bs : List Nat} {P : Nat → Nat → Bool} {v : Value} {W : World} (h : MatB base n bs P v W) (hb : bs[i]? = some b) (hk : k < n) : MatB base n bs (Tab.offM P i k) v (W.setCell ⟨b, k, none⟩ (.bool false)) := by
  have hO : Only (· = b) W (W.setCell ⟨b, k, none⟩ (.bool false)) := (Only.refl _ W).put k _
  refine ⟨own_only h.1 hO fun g hg e => h.nb hb (by rw [← e]; exact hg), h.2.1, fun j c hc => ?_⟩
  by_cases hj : j = i
  · subst hj
    obtain rfl : b = c := by rw [hb] at hc; exact Option.some.inj hc
    refine (h.2.2 j b hb).set hk false fun q hq => ?_
    unfold Tab.offM
    by_cases hq : q = k <;> simp [hq]
  · have hcb : ¬ c = b := by
      intro e
      subst e
      obtain ⟨h1, e1⟩ := List.getElem?_eq_some_iff.1 hc
      obtain ⟨h2, e2⟩ := List.getElem?_eq_some_iff.1 hb
      exact hj ((List.getElem_inj h.2.1).1 (e1.trans e2.symm))
    refine ((h.2.2 j c hc).only hO hcb).congr fun q hq => ?_
    unfold Tab.offM
    rw [if_neg (fun e => hj e.1)]
theorem MatB.push {base n b : Nat} {bs : List Nat} {v v' : Value} {W W1 W3 : World} (h : MatB base n bs (fun _ _ => true) v W) (hb : RowB base n (fun _ => true) b W) (hnb : b ∉ bs) (k : Kept W W1) (hgrow : W1.grownBy W3 v.ownBlock)
    (hown : W3.ownsRow base 175 1 v' (bs.length + 1) (bs.map (rowV n) ++ [rowV n b])) : MatB base n (bs ++ [b]) (fun _ _ => true) v' W3 := by
  have hr : ∀ c, RowB base n (fun _ => true) c W → RowB base n (fun _ => true) c W3 := by
    rintro c ⟨h1, cs, h2, h3⟩
    exact ⟨h1, cs, (h2.kept k).grownBy hgrow (ne_row_blk h2 (by decide) h.1), h3⟩
  refine ⟨by rw [List.length_append, List.map_append]; exact hown, ?_, fun i c hc => ?_⟩
  · rw [List.nodup_append]
    exact ⟨h.2.1, by simp, fun x hx y hy e => by obtain rfl := List.mem_singleton.1 hy; subst e; exact hnb hx⟩
  · rcases List.mem_append.1 (List.mem_of_getElem? hc) with hm | hm
    · obtain ⟨j, hj⟩ := List.getElem?_of_mem hm
      exact hr c (h.2.2 j c hj)
    · obtain rfl := List.mem_singleton.1 hm
      exact hr _ hb
theorem MatB.nil (base n : Nat) (P : Nat → Nat → Bool) (W : World) : MatB base n [] P (.slice none 0 0) W := ⟨World.ownsRow_nil _ _ _ _, List.nodup_nil, fun i b h => by simp at h⟩
theorem MatB.lt {base n : Nat} {bs : List Nat} {P : Nat → Nat → Bool} {v : Value} {W : World} (h : MatB base n bs P v W) : ∀ b ∈ bs, b < W.heap.size := by
  intro b hb
  obtain ⟨i, hi⟩ := List.getElem?_of_mem hb
  exact (h.2.2 i b hi).lt

theorem info_bo8 : (Tryz.prog.info? 4).map (fun i => (i.zero, i.size, i.bytes)) = some (some (.bool false), 1, 1) := by kernel_rfl
theorem info_br8 : (Tryz.prog.info? 175).map (fun i => (i.zero, i.size, i.bytes)) = some (some (.slice none 0 0), 1, 24) := by kernel_rfl
theorem RowB.made {base n b : Nat} {W : World} (h : W.ownsRow base 4 1 (.slice (some ⟨b, 0, none⟩) n n) n (madeCells (Value.bool false).cells (n * 1)).toList) : RowB base n (fun k => decide (k < 0)) b W := by
  rcases h.2 with ⟨h0, _⟩ | ⟨g, cap, cur, hv, h1, h2, h3, h4, h5, h6⟩
  · cases h0
  · cases hv
    refine ⟨h1, cur, h2, by omega, fun k hk => ?_⟩
    have e : cur.toList = (madeCells (Value.bool false).cells (n * 1)).toList := by
      rw [← h6, List.take_of_length_le (by simp; omega)]
    rw [← Array.getElem?_toList, e]
    simp [madeCells, Value.cells, hk, Nat.mod_one]

/-- A matrix of one's own, out of which nothing has been struck that is to stay. -/
def GrS (K : Nat → Nat → Prop) (n base : Nat) (w : World) (bs : List Nat) (v : Value) (P : Nat → Nat → Bool) (W : World) : Prop :=
  MatB base n bs P v W ∧ Kept w W ∧ Hid (∀ a b, a < n → b < n → K a b → P a b = true)
theorem GrS.keep {K : Nat → Nat → Prop} {n base : Nat} {w W W' : World} {bs : List Nat} {v : Value} {P : Nat → Nat → Bool} (h : GrS K n base w bs v P W) (k : Kept W W') : GrS K n base w bs v P W' := ⟨h.1.keep k, h.2.1.trans k, h.2.2⟩
theorem GrS.off {K : Nat → Nat → Prop} {n base : Nat} {w W : World} {bs : List Nat} {v : Value} {P : Nat → Nat → Bool} {i k b : Nat} (h : GrS K n base w bs v P W) (hw : w.heap.size = base) (hb : bs[i]? = some b) (hk : k < n) (hn : ¬ K i k) : GrS K n base w bs v (Tab.offM P i k) (W.setCell ⟨b, k, none⟩ (.bool false)) :=
  ⟨h.1.off hb hk, h.2.1.setCell (show w.heap.size ≤ b from hw ▸ (h.1.2.2 i b hb).1) _, Lib.hid (Tab.keep_off h.2.2.out hn)⟩

theorem src_rw8 (W : World) (n b : Nat) : Src Tryz.prog 1 118 (.slice (some ⟨W.heap.size, 0, none⟩) 1 1) 1 [rowV n b] (W.alloc (.cells #[.slice (some ⟨b, 0, none⟩) n n] 175)) := by
  refine Src.ofSlice _ Tryz.underlying118 ⟨W.heap.size, 0, none⟩ 1 1 [rowV n b] rfl ?_ ?_
  · intro j v hv
    rw [addr_plain, (Blk.new W _ _).cell, Nat.zero_add]
    simpa [rowV] using hv
  · intro v hv
    obtain rfl := List.mem_singleton.1 hv
    rfl

theorem src_rw7 (W : World) (n b : Nat) : Src Tryz.prog 1 105 (.slice (some ⟨W.heap.size, 0, none⟩) 1 1) 1 [rowV n b] (W.alloc (.cells #[.slice (some ⟨b, 0, none⟩) n n] 175)) := by
  refine Src.ofSlice _ Tryz.underlying105 ⟨W.heap.size, 0, none⟩ 1 1 [rowV n b] rfl ?_ ?_
  · intro j v hv
    rw [addr_plain, (Blk.new W _ _).cell, Nat.zero_add]
    simpa [rowV] using hv
  · intro v hv
    obtain rfl := List.mem_singleton.1 hv
    rfl

end Go.Proofs.YthooiofaicdhgaaGreatDoor

namespace Go.Proofs.YthooiofaicdhgaaGreatDoor
open Go.ChangeShapes Go.WideShapes Go.ChangeAt Go.RowKit

namespace Tab
theorem aryR_at {t : List C} {s : ByteArray} (g : Good t s) {x : Mb ByteArray} (hx : x ∈ mbs t s) : aryR t s x.name = some x.ar := by
  have hm : (x.name, x.ar) ∈ members t s := by rw [← mbs_told]; exact List.mem_map.2 ⟨x, hx, rfl⟩
  unfold aryR
  rw [find_nodup (fun y : ByteArray × Int => y.1) g.names hm]
  rfl
theorem aryR_no {t : List C} {s nm : ByteArray} (h : ∀ x ∈ mbs t s, ¬ x.name = nm) : aryR t s nm = none := by
  unfold aryR
  rw [find_no (fun y : ByteArray × Int => y.1)]
  · rfl
  · rintro ⟨y, hy, e⟩
    rw [← mbs_told] at hy
    obtain ⟨x, hx, rfl⟩ := List.mem_map.1 hy
    exact h x hx e
theorem fldR_at {t : List C} {s : ByteArray} (g : Good t s) {f : V} (hf : f ∈ fields t s) : fldR t s f.name = some f.typ := by
  unfold fldR
  rw [find_nodup V.name g.fn hf]
  rfl
theorem zip_types (R : ByteArray → ByteArray → Bool) (a b : ByteArray) : ∀ (l u : List V), l.length = u.length → (((l.map (·.typ) ++ [a]).zip (u.map (·.typ) ++ [b])).all fun q => R q.1 q.2) = (((l.zip u).all fun x => R x.1.typ x.2.typ) && R a b)
  | [], [], _ => by simp
  | x :: l, y :: u, h => by
    rw [List.map_cons, List.map_cons, List.cons_append, List.cons_append, List.zip_cons_cons, List.zip_cons_cons, List.all_cons, List.all_cons, zip_types R a b l u (by simpa using h), Bool.and_assoc]
  | [], _ :: _, h => by simp at h
  | _ :: _, [], h => by simp at h

/-- What members sees of a member. -/
inductive See8 (R : ByteArray → ByteArray → Bool) (t : List C) (s u : ByteArray) (m : Mb ByteArray) : Prop
  | no (h1 : aryR t s m.name ≠ some m.ar) (h2 : mokB R t s m = false)
  | fld (a b : ByteArray) (h0 : m.ar = -1) (h1 : aryR t s m.name = some m.ar) (h2 : fldR t s m.name = some a) (h3 : fldR t u m.name = some b) (h5 : mokB R t s m = R a b)
  | mth (p q : M) (o1 o2 : ByteArray) (h0 : m.ar = (q.params.length : Int)) (h1 : aryR t s m.name = some m.ar) (h3 : method t s m.name = some (p, o1)) (h4 : method t u m.name = some (q, o2)) (h5 : p.params.length = q.params.length)
      (h6 : mokB R t s m = (((p.params.zip q.params).all fun x => R x.1.typ x.2.typ) && R p.res q.res))

theorem see8 (R : ByteArray → ByteArray → Bool) {t : List C} (hv : Valid t) {s u : ByteArray} (hs : isC t s = true) (hu : isC t u = true) {m : Mb ByteArray} (hm : m ∈ mbs t u) : See8 R t s u m := by
  have gs := isC_good hv hs
  have gu := isC_good hv hu
  by_cases hx : ∃ x ∈ mbs t s, x.name = m.name
  · obtain ⟨x, hx, hn⟩ := hx
    have h1 := aryR_at gs hx
    rw [hn] at h1
    by_cases ha : x.ar = m.ar
    · have hal : alike x m = true := alike_iff.2 ⟨hn, ha⟩
      have hmk : mokB R t s m = (x.types.zip m.types).all fun q => R q.1 q.2 := by
        unfold mokB
        rw [any_one hx]
        · show (alike x m && _) = _
          rw [hal, Bool.true_and]
        · intro y hy e
          simp only [Bool.and_eq_true] at e ⊢
          have : y = x := mbs_unique hv hs hy hx (by rw [(alike_iff.1 e.1).1, hn])
          subst this
          exact e
      rw [ha] at h1
      unfold mbs at hm
      rcases List.mem_append.1 hm with hm | hm
      · obtain ⟨f, hf, rfl⟩ := List.mem_map.1 hm
        have hx' := hx
        unfold mbs at hx'
        rcases List.mem_append.1 hx' with hgg | hgg
        · obtain ⟨g, hg, rfl⟩ := List.mem_map.1 hgg
          have e1 : g.name = f.name := hn
          refine .fld g.typ f.typ rfl h1 ?_ (fldR_at gu hf) ?_
          · show fldR t s f.name = _
            rw [← e1]
            exact fldR_at gs hg
          · rw [hmk]
            simp [mbF]
        · obtain ⟨g, hg, rfl⟩ := List.mem_map.1 hgg
          have e2 : (g.params.length : Int) = -1 := ha
          omega
      · obtain ⟨q, hq, rfl⟩ := List.mem_map.1 hm
        have hx' := hx
        unfold mbs at hx'
        rcases List.mem_append.1 hx' with hgg | hgg
        · obtain ⟨g, hg, rfl⟩ := List.mem_map.1 hgg
          have e2 : (-1 : Int) = (q.params.length : Int) := ha
          omega
        · obtain ⟨p, hp, rfl⟩ := List.mem_map.1 hgg
          have e1 : p.name = q.name := hn
          have e2 : (p.params.length : Int) = (q.params.length : Int) := ha
          obtain ⟨j1, _, k1⟩ := gs.md p hp
          obtain ⟨j2, _, k2⟩ := gu.md q hq
          refine .mth p q (nth t j1).name (nth t j2).name rfl h1 ?_ k2 (by omega) ?_
          · show method t s q.name = _
            rw [← e1]
            exact k1
          · rw [hmk]
            exact zip_types R p.res q.res p.params q.params (by omega)
    · refine .no (by rw [h1]; exact fun e => ha (Option.some.inj e)) ?_
      unfold mokB
      rw [List.any_eq_false]
      intro y hy e
      simp only [Bool.and_eq_true] at e
      have : y = x := mbs_unique hv hs hy hx (by rw [(alike_iff.1 e.1).1, hn])
      subst this
      exact ha (alike_iff.1 e.1).2
  · refine .no (by rw [aryR_no fun x hx' e => hx ⟨x, hx', e⟩]; simp) ?_
    unfold mokB
    rw [List.any_eq_false]
    intro y hy e
    simp only [Bool.and_eq_true] at e
    exact hx ⟨y, hy, (alike_iff.1 e.1).1⟩
end Tab

set_option maxHeartbeats 4000000 in
theorem rhold8_c (t : List Tab.C) (a : Option Addr) (cp : Nat) (P : Nat → Nat → Bool) (v : Value) (s u : ByteArray) (w : World) (h : TabAt w (.slice a t.length cp) t) (hm : MatV t.length P v w) :
    Calls Tryz.prog 111 #[v, .slice a t.length cp, .string s, .string u] w fun e w' => e = .returned (.bool (Tab.hoP t P s u)) ∧ w' = w := by
  have HFs := rfind_c t (.slice a t.length cp) s w h
  have HFu := rfind_c t (.slice a t.length cp) u w h
  unfold FindPost at HFs HFu
  have HV := Lib.hid (show Tab.hoP t P s u = (decide (s = u) || decide (u = ⟨#[63]⟩) || (match Tab.ix Tab.C.name t s, Tab.ix Tab.C.name t u with
    | some i, some k => P i k
    | _, _ => false)) from rfl)
  have HIs := Lib.hid (fun i (e : Tab.ix Tab.C.name t s = some i) => (Tab.ix_lt e).1)
  have HIu := Lib.hid (fun i (e : Tab.ix Tab.C.name t u = some i) => (Tab.ix_lt e).1)
  have ht : t.length ≤ maxLen := by obtain ⟨_, _, e, h1, h2, _⟩ := h; exact Nat.le_trans h1 h2
  unfold maxLen at ht
  generalize Tab.hoP t P s u = ans at HV ⊢
  obtain ⟨ma, mc, rfl, m1, m2, m3⟩ := hm
  unfold maxLen at m2
  have HM := Lib.hid m3
  clear h m3
  by_cases hsu : s = u
  · have hb := beq_yes hsu
    obtain rfl : ans = true := by rw [HV.out, decide_eq_true hsu]; rfl
    have H1 := Lib.hid HFs
    have H2 := Lib.hid HFu
    clear HFs HFu hsu
    go_enter Tryz.func111, Tryz.ntmps111
    go_wp2_with fail
    go_ret
    exact ⟨rfl, rfl⟩
  · have hb := beq_no hsu
    by_cases hd : u = ⟨#[63]⟩
    · have hq : (u.toList == ([63] : List UInt8)) = true := by have := beq_yes hd; rwa [show (⟨#[63]⟩ : ByteArray).toList = [63] by kernel_rfl] at this
      obtain rfl : ans = true := by rw [HV.out, decide_eq_true hd]; simp
      have H1 := Lib.hid HFs
      have H2 := Lib.hid HFu
      clear HFs HFu hsu hd
      go_enter Tryz.func111, Tryz.ntmps111
      go_wp2_with fail
      go_ret
      exact ⟨rfl, rfl⟩
    · have hq : (u.toList == ([63] : List UInt8)) = false := by have := beq_no hd; rwa [show (⟨#[63]⟩ : ByteArray).toList = [63] by kernel_rfl] at this
      have HV2 := Lib.hid (show ans = (match Tab.ix Tab.C.name t s, Tab.ix Tab.C.name t u with
        | some i, some k => P i k
        | _, _ => false) by rw [HV.out, decide_eq_false hsu, decide_eq_false hd]; rfl)
      clear hsu hd HV
      cases hi : Tab.ix Tab.C.name t s with
      | none =>
        obtain rfl : ans = false := by rw [HV2.out, hi]
        rw [hi] at HFs
        simp only [Option.isSome_none] at HFs
        have H1 := Lib.hid HFs
        have H2 := Lib.hid HFu
        generalize Tab.num none = z1 at H1
        generalize Tab.num (Tab.ix Tab.C.name t u) = z2 at H2
        generalize (Tab.ix Tab.C.name t u).isSome = y2 at H2
        clear HFs HFu hi
        go_enter Tryz.func111, Tryz.ntmps111
        go_wp2_with fail
        refine H1.out.mono ?_
        rintro e w1 ⟨rfl, rfl⟩
        go_wp2_with fail
        refine H2.out.mono ?_
        rintro e w2 ⟨rfl, rfl⟩
        go_wp2_with fail
        go_ret
        exact ⟨rfl, rfl⟩
      | some i =>
        have hil := HIs.out i hi
        rw [hi] at HFs
        simp only [Option.isSome_some, Tab.num] at HFs
        have H1 := Lib.hid HFs
        cases hk : Tab.ix Tab.C.name t u with
        | none =>
          obtain rfl : ans = false := by rw [HV2.out, hi, hk]
          rw [hk] at HFu
          simp only [Option.isSome_none] at HFu
          have H2 := Lib.hid HFu
          generalize Tab.num none = z2 at H2
          clear HFs HFu hi hk
          go_enter Tryz.func111, Tryz.ntmps111
          go_wp2_with fail
          refine H1.out.mono ?_
          rintro e w1 ⟨rfl, rfl⟩
          go_wp2_with fail
          refine H2.out.mono ?_
          rintro e w2 ⟨rfl, rfl⟩
          go_wp2_with fail
          go_ret
          exact ⟨rfl, rfl⟩
        | some k =>
          have hkl := HIu.out k hk
          have HA := Lib.hid (show ans = P i k by rw [HV2.out, hi, hk])
          rw [hk] at HFu
          simp only [Option.isSome_some, Tab.num] at HFu
          have H2 := Lib.hid HFu
          obtain ⟨b, rb, rfl, c1, c2⟩ := HM.out i hil
          have c3 := c2 k hkl
          have hiI : (i : Int) < (t.length : Int) := by omega
          have hkI : (k : Int) < (t.length : Int) := by omega
          generalize t.length = n at *
          generalize P i k = pik at c3 HA
          clear HFs HFu hi hk HV2 c2 HM HIs HIu
          go_enter Tryz.func111, Tryz.ntmps111
          go_wp2_with fail
          refine H1.out.mono ?_
          rintro e w1 ⟨rfl, rfl⟩
          go_wp2_with fail
          refine H2.out.mono ?_
          rintro e w2 ⟨rfl, rfl⟩
          go_wp2_with fail
          go_ret
          exact ⟨by rw [HA.out]; rfl, rfl⟩

end Go.Proofs.YthooiofaicdhgaaGreatDoor
