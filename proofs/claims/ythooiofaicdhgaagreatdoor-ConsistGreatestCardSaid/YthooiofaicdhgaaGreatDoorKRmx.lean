/- The document's own answers about tables (chaperonref05): Methods. The document's own answers about tables (chaperonref05): Members, Arity, Field. The document's greatest relations in plain words: a matrix of pairs of classes out of which is struck what the members do not bear; what it leaves at its end is what goes, and what is as precise. A matrix of bools of one's own in memory: a slice of slices; and the striking out of pairs, in plain words. The document's own answers about precision (chaperonref08): holds, members. -/
import Derived.Test.YthooiofaicdhgaaGreatDoorKRfc
import Derived.Test.YthooiofaicdhgaaGreatDoorKCpt
import Derived.Deep.RegionHeld3
import Derived.StillTactics
import Derived.Test.YthooiofaicdhgaaGreatDoorKPcn
import Derived.StillTailTactics
set_option linter.unusedSimpArgs false
set_option linter.unusedVariables false
set_option maxRecDepth 100000
namespace Go.Proofs.YthooiofaicdhgaaGreatDoor
open Go.ChangeShapes Go.WideShapes Go.ChangeAt Go.RowKit
end Go.Proofs.YthooiofaicdhgaaGreatDoor
namespace Go.Proofs.YthooiofaicdhgaaGreatDoor
open Go.ChangeShapes Go.WideShapes Go.ChangeAt Go.RowKit
namespace Tab
end Tab
end Go.Proofs.YthooiofaicdhgaaGreatDoor
namespace Go.Proofs.YthooiofaicdhgaaGreatDoor.Tab
theorem all_mem {α : Type} {p q : α → Bool} : ∀ {l : List α}, (∀ x ∈ l, p x = q x) → l.all p = l.all q
 | [], _ => rfl
 | x :: l, h => by
  rw [List.all_cons, List.all_cons, h x (List.mem_cons_self ..), all_mem fun y hy => h y (List.mem_cons_of_mem _ hy)]
theorem any_one {α : Type} {p : α → Bool} {l : List α} {x : α} (hx : x ∈ l) (h : ∀ y ∈ l, p y = true → p x = true) : l.any p = p x := by
 rw [Bool.eq_iff_iff, List.any_eq_true]
 exact ⟨fun ⟨y, hy, e⟩ => h y hy e, fun e => ⟨x, hx, e⟩⟩
/-- What a class' field, and method, of a name is. -/
def fdD (t : List C) (s nm : ByteArray) : ByteArray := (field t s nm).getD ⟨#[]⟩
def mtD (t : List C) (s nm : ByteArray) : M := ((method t s nm).map Prod.fst).getD ⟨⟨#[]⟩, [], ⟨#[]⟩⟩
def gF (R : ByteArray → ByteArray → Bool) (t : List C) (s : ByteArray) (f : V) : Bool := R (fdD t s f.name) f.typ && R f.typ (fdD t s f.name)
def gM (R : ByteArray → ByteArray → Bool) (t : List C) (s : ByteArray) (m : M) : Bool := R (mtD t s m.name).res m.res && ((mtD t s m.name).params.zip m.params).all fun p => R p.2.typ p.1.typ
def hoR (R : ByteArray → ByteArray → Bool) (t : List C) (s u : ByteArray) : Bool := hasB (mbs t s) (mbs t u) && ((fields t u).all (gF R t s) && (methods t u).all (gM R t s))
theorem isC_good {t : List C} (hv : Valid t) {c : ByteArray} (h : isC t c = true) : Good t c := by
 obtain ⟨i, hi, rfl⟩ := isC_at h
 exact hv.good hi
theorem alike_fld {t : List C} (hv : Valid t) {s : ByteArray} (hs : isC t s = true) {x : Mb ByteArray} {f : V} (hx : x ∈ mbs t s) (ha : alike x (mbF f) = true) : x.types = [fdD t s f.name] := by
 have g := isC_good hv hs
 obtain ⟨e1, e2⟩ := alike_iff.1 ha
 unfold mbs at hx
 rcases List.mem_append.1 hx with hx | hx
 ·obtain ⟨y, hy, rfl⟩ := List.mem_map.1 hx
  have e1 : y.name = f.name := e1
  unfold fdD
  rw [← e1, g.fd y hy]
  rfl
 ·obtain ⟨y, hy, rfl⟩ := List.mem_map.1 hx
  have e2 : (y.params.length : Int) = -1 := e2
  omega
theorem alike_mth {t : List C} (hv : Valid t) {s : ByteArray} (hs : isC t s = true) {x : Mb ByteArray} {q : M} (hx : x ∈ mbs t s) (ha : alike x (mbM q) = true) : x.types = (mtD t s q.name).params.map (·.typ) ++ [(mtD t s q.name).res] ∧ (mtD t s q.name).params.length = q.params.length := by
 have g := isC_good hv hs
 obtain ⟨e1, e2⟩ := alike_iff.1 ha
 unfold mbs at hx
 rcases List.mem_append.1 hx with hx | hx
 ·obtain ⟨y, hy, rfl⟩ := List.mem_map.1 hx
  have e2 : (-1 : Int) = (q.params.length : Int) := e2
  omega
 ·obtain ⟨y, hy, rfl⟩ := List.mem_map.1 hx
  have e1 : y.name = q.name := e1
  have e2 : (y.params.length : Int) = (q.params.length : Int) := e2
  obtain ⟨j, _, h⟩ := g.md y hy
  have e : mtD t s q.name = y := by unfold mtD; rw [← e1, h]; rfl
  rw [e]
  exact ⟨rfl, by omega⟩
theorem okAt_mth (R : ByteArray → ByteArray → Bool) (n : Nat) (a b : ByteArray) : ∀ (l u : List V) (i : Nat), l.length = u.length → i + l.length = n → okAt R (n : Int) i (l.map (·.typ) ++ [a]) (u.map (·.typ) ++ [b]) = (R a b && (l.zip u).all fun p => R p.2.typ p.1.typ)
 | [], [], i, _, h => by
  have : i = n := by simpa using h
  subst this
  simp [okAt, okP, fwd, bwd]
 | x :: l, y :: u, i, h1, h2 => by
  have hlt : (i : Int) < (n : Int) := by simp at h2; omega
  have hn : ¬ (n : Int) < 0 := by omega
  rw [List.map_cons, List.map_cons, List.cons_append, List.cons_append, okAt, okAt_mth R n a b l u (i + 1) (by simpa using h1) (by simp at h2; omega)]
  have e : okP R (n : Int) i x.typ y.typ = R y.typ x.typ := by
   unfold okP fwd bwd
   rw [decide_eq_true hlt, decide_eq_false hn]
   simp
  rw [e, List.zip_cons_cons, List.all_cons]
  cases R y.typ x.typ <;> cases R a b <;> simp
 | [], _ :: _, _, h, _ => by simp at h
 | _ :: _, [], _, h, _ => by simp at h
theorem okM_fld {t : List C} (hv : Valid t) {s : ByteArray} (hs : isC t s = true) (R : ByteArray → ByteArray → Bool) {x : Mb ByteArray} {f : V} (hx : x ∈ mbs t s) (ha : alike x (mbF f) = true) : okM R x (mbF f) = gF R t s f := by
 unfold okM
 rw [alike_fld hv hs hx ha]
 unfold gF mbF
 simp [okAt, okP, fwd, bwd]
theorem okM_mth {t : List C} (hv : Valid t) {s : ByteArray} (hs : isC t s = true) (R : ByteArray → ByteArray → Bool) {x : Mb ByteArray} {q : M} (hx : x ∈ mbs t s) (ha : alike x (mbM q) = true) : okM R x (mbM q) = gM R t s q := by
 obtain ⟨e1, e2⟩ := alike_mth hv hs hx ha
 unfold okM
 rw [e1]
 exact okAt_mth R q.params.length _ _ _ _ 0 e2 (by omega)
theorem hoR_holds {t : List C} (hv : Valid t) {s u : ByteArray} (hs : isC t s = true) (R : ByteArray → ByteArray → Bool) : hoR R t s u = holds R (mbs t s) (mbs t u) := by
 cases hb : hasB (mbs t s) (mbs t u) with
 | false =>
  have e : holds R (mbs t s) (mbs t u) = false := by
   cases h : holds R (mbs t s) (mbs t u) with
   | false => rfl
   | true => rw [holds_hasB h] at hb; cases hb
  rw [e]
  unfold hoR
  rw [hb]
  rfl
 | true =>
  have hB := hasB_iff.1 hb
  unfold hoR holds
  rw [hb, Bool.true_and]
  unfold mbs at hB ⊢
  rw [List.all_append, List.all_map, List.all_map]
  congr 1
  ·refine all_mem fun f hf => ?_
   obtain ⟨x, hx, ha⟩ := hB (mbF f) (List.mem_append_left _ (List.mem_map.2 ⟨f, hf, rfl⟩))
   have hx' : x ∈ mbs t s := hx
   have := any_one (p := fun y => alike y (mbF f) && okM R y (mbF f)) hx fun y hy e => by
    simp only [Bool.and_eq_true] at e ⊢
    refine ⟨ha, ?_⟩
    rw [okM_fld hv hs R hx' ha, ← okM_fld hv hs R (show y ∈ mbs t s from hy) e.1]
    exact e.2
   show _ = List.any _ _
   rw [this]
   show gF R t s f = (alike x (mbF f) && okM R x (mbF f))
   rw [ha, okM_fld hv hs R hx' ha, Bool.true_and]
  ·refine all_mem fun f hf => ?_
   obtain ⟨x, hx, ha⟩ := hB (mbM f) (List.mem_append_right _ (List.mem_map.2 ⟨f, hf, rfl⟩))
   have hx' : x ∈ mbs t s := hx
   have := any_one (p := fun y => alike y (mbM f) && okM R y (mbM f)) hx fun y hy e => by
    simp only [Bool.and_eq_true] at e ⊢
    refine ⟨ha, ?_⟩
    rw [okM_mth hv hs R hx' ha, ← okM_mth hv hs R (show y ∈ mbs t s from hy) e.1]
    exact e.2
   show _ = List.any _ _
   rw [this]
   show gM R t s f = (alike x (mbM f) && okM R x (mbM f))
   rw [ha, okM_mth hv hs R hx' ha, Bool.true_and]
theorem okAt_map {α β : Type} (f : α → β) (R : β → β → Bool) (ar : Int) : ∀ (i : Nat) (l u : List α), okAt R ar i (l.map f) (u.map f) = okAt (fun a b => R (f a) (f b)) ar i l u
 | i, [], u => by simp [okAt]
 | i, a :: l, [] => by simp [okAt]
 | i, a :: l, b :: u => by
  rw [List.map_cons, List.map_cons, okAt, okAt, okAt_map f R ar (i + 1) l u]
  rfl
theorem holds_map {α β : Type} (f : α → β) (R : β → β → Bool) (L U : List (Mb α)) : holds R (L.map (Mb.map f)) (U.map (Mb.map f)) = holds (fun a b => R (f a) (f b)) L U := by
 unfold holds
 rw [List.all_map]
 refine all_mem fun m _ => ?_
 show (L.map (Mb.map f)).any _ = _
 rw [List.any_map]
 congr 1
 funext x
 show (alike (Mb.map f x) (Mb.map f m) && okM R (Mb.map f x) (Mb.map f m)) = _
 unfold okM Mb.map
 rw [okAt_map]
 rfl
theorem okAt_monoT {R Q : ByteArray → ByteArray → Bool} {T : ByteArray → Prop} (h : ∀ a b, T a → T b → R a b = true → Q a b = true) {ar : Int} : ∀ {i : Nat} {l u : List ByteArray}, (∀ a ∈ l, T a) → (∀ a ∈ u, T a) → okAt R ar i l u = true → okAt Q ar i l u = true
 | i, [], u, _, _, _ => by unfold okAt; rfl
 | i, a :: l, [], _, _, _ => by unfold okAt; rfl
 | i, a :: l, b :: u, hl, hu, hg => by
  unfold okAt at hg ⊢
  simp only [Bool.and_eq_true] at hg ⊢
  refine ⟨?_, okAt_monoT h (fun x hx => hl x (List.mem_cons_of_mem _ hx)) (fun x hx => hu x (List.mem_cons_of_mem _ hx)) hg.2⟩
  have ha := hl a (List.mem_cons_self ..)
  have hb := hu b (List.mem_cons_self ..)
  have hg := hg.1
  unfold okP at hg ⊢
  simp only [Bool.or_eq_true, Bool.and_eq_true] at hg ⊢
  exact ⟨hg.1.imp_right (h _ _ ha hb), hg.2.imp_right (h _ _ hb ha)⟩
theorem holds_monoT {R Q : ByteArray → ByteArray → Bool} {T : ByteArray → Prop} (h : ∀ a b, T a → T b → R a b = true → Q a b = true) {l u : List (Mb ByteArray)} (hl : ∀ x ∈ l, ∀ a ∈ x.types, T a) (hu : ∀ x ∈ u, ∀ a ∈ x.types, T a) (hg : holds R l u = true) : holds Q l u = true := by
 unfold holds at hg ⊢
 rw [List.all_eq_true] at hg ⊢
 intro m hm
 have := hg m hm
 rw [List.any_eq_true] at this ⊢
 obtain ⟨x, hx, e⟩ := this
 refine ⟨x, hx, ?_⟩
 simp only [Bool.and_eq_true] at e ⊢
 exact ⟨e.1, okAt_monoT h (hl x hx) (hu m hm) e.2⟩
theorem mbs_isT {t : List C} (hv : Valid t) (c : ByteArray) : ∀ x ∈ mbs t c, ∀ a ∈ x.types, isT t a = true := by
 intro x hx a ha
 unfold mbs at hx
 rcases List.mem_append.1 hx with hx | hx
 ·obtain ⟨f, hf, rfl⟩ := List.mem_map.1 hx
  obtain rfl : a = f.typ := by simpa [mbF] using ha
  exact field_typ hv hf
 ·obtain ⟨m, hm, rfl⟩ := List.mem_map.1 hx
  have ha : a ∈ m.params.map (·.typ) ++ [m.res] := ha
  rcases List.mem_append.1 ha with ha | ha
  ·obtain ⟨p, hp, rfl⟩ := List.mem_map.1 ha
   exact (meth_typ hv hm).1 p hp
  ·obtain rfl : a = m.res := by simpa using ha
   exact (meth_typ hv hm).2
/-- The numbers of types that are no classes. -/
def nb (s : ByteArray) : Int := if s = ⟨#[63]⟩ then -1 else if s = ⟨#[105, 110, 116]⟩ then -2 else if s = ⟨#[114, 101, 97, 108]⟩ then -3 else if s = ⟨#[98, 111, 111, 108]⟩ then -4 else if s = ⟨#[115, 116, 114]⟩ then -5 else if s = ⟨#[117, 110, 105, 116]⟩ then -6 else 0
theorem nb_neg : ∀ a ∈ basics, nb a < 0 := by decide +kernel
theorem nb_dyn : ∀ a ∈ basics, nb a = -1 → a = ⟨#[63]⟩ := by decide +kernel
theorem nb_inj : ∀ a ∈ basics, ∀ b ∈ basics, nb a = nb b → a = b := by decide +kernel
theorem isC_dyn {t : List C} (hv : Valid t) : isC t ⟨#[63]⟩ = false := by
 cases h : isC t ⟨#[63]⟩ with
 | false => rfl
 | true =>
  obtain ⟨i, hi, e⟩ := isC_at h
  have := hv.cls hi
  rw [← e] at this
  exact absurd this (by decide +kernel)
theorem at_isC {t : List C} {s : ByteArray} : isC t s = true ↔ ∃ i, at' t s = some i := by
 unfold isC at'
 rw [Option.isSome_iff_exists]
theorem at_no {t : List C} {s : ByteArray} (h : isC t s = false) : at' t s = none := by
 unfold isC at h
 unfold at'
 cases e : ix C.name t s with
 | none => rfl
 | some _ => rw [e] at h; cases h
theorem at_nth {t : List C} {s : ByteArray} {i : Nat} (h : at' t s = some i) : i < t.length ∧ s = (nth t i).name := by
 obtain ⟨hl, hn⟩ := ix_lt h
 exact ⟨hl, by rw [nth_of (List.getElem?_eq_getElem hl)]; exact hn.symm⟩
theorem numOf_at {t : List C} {s : ByteArray} {i : Nat} (h : at' t s = some i) : numOf t s = i := by unfold numOf; rw [h]
theorem numOf_no {t : List C} {s : ByteArray} (h : at' t s = none) : numOf t s = nb s := by unfold numOf; rw [h]; rfl
/-- A type is a class, or one of the six. -/
theorem isT_or' {t : List C} {s : ByteArray} (h : isT t s = true) : (∃ i, at' t s = some i) ∨ (at' t s = none ∧ s ∈ basics) := by
 cases hc : isC t s with
 | true => exact .inl (at_isC.1 hc)
 | false =>
  right
  refine ⟨at_no hc, ?_⟩
  unfold isT at h
  rw [hc, Bool.or_false] at h
  exact of_decide_eq_true h
/-- A type goes to another one, as far as is known of pairs of classes. -/
def goG (t : List C) (P : Nat → Nat → Bool) (s u : ByteArray) : Bool := decide (s = ⟨#[63]⟩) || decide (u = ⟨#[63]⟩) || decide (u ∈ up t s) || (match at' t s, at' t u with
 | some i, some k => P i k
 | _, _ => false)
theorem up_cls' {t : List C} (hv : Valid t) {s u : ByteArray} (h : u ∈ up t s) : u = s ∨ (isC t s = true ∧ isC t u = true) := by
 cases hc : isC t s with
 | false =>
  unfold up at h
  rw [hc] at h
  exact .inl (List.mem_singleton.1 h)
 | true =>
  right
  refine ⟨rfl, ?_⟩
  obtain ⟨i, hi, rfl⟩ := isC_at hc
  rw [hv.up_cls hi] at h
  obtain ⟨k, hk, rfl⟩ := List.mem_map.1 h
  exact hv.isC ((lineF_nodup t _ _ _).2 k hk).2
theorem goesN_goG {t : List C} (hv : Valid t) {F P : Nat → Nat → Bool} (h : ∀ i k, i < t.length → k < t.length → F i k = true → P i k = true) {a b : ByteArray} (ha : isT t a = true) (hb : isT t b = true) (hg : goesN F (numOf t a) (numOf t b) = true) : goG t P a b = true := by
 unfold goesN at hg
 unfold goG
 simp only [Bool.or_eq_true, Bool.and_eq_true, decide_eq_true_eq] at hg ⊢
 rcases isT_or' ha with ⟨i, hi⟩ | ⟨hi, hia⟩
 ·rcases isT_or' hb with ⟨k, hk⟩ | ⟨hk, hkb⟩
  ·rw [numOf_at hi, numOf_at hk] at hg
   rw [hi, hk]
   obtain ⟨hi1, hi2⟩ := at_nth hi
   obtain ⟨hk1, hk2⟩ := at_nth hk
   rcases hg with ((hg | hg) | hg) | hg
   ·left; right
    have : i = k := by omega
    subst this
    rw [hk2, ← hi2]
    exact hv.up_self _
   ·omega
   ·omega
   ·right
    have := h i k hi1 hk1 (by simpa using hg.2)
    exact this
  ·rw [numOf_at hi, numOf_no hk] at hg
   have := nb_neg b hkb
   rcases hg with ((hg | hg) | hg) | hg
   ·omega
   ·omega
   ·exact .inl (.inl (.inr (nb_dyn b hkb hg)))
   ·omega
 ·rw [numOf_no hi] at hg
  have := nb_neg a hia
  rcases hg with ((hg | hg) | hg) | hg
  ·rcases isT_or' hb with ⟨k, hk⟩ | ⟨hk, hkb⟩
   ·rw [numOf_at hk] at hg; omega
   ·rw [numOf_no hk] at hg
    have := nb_inj a hia b hkb hg
    subst this
    exact .inl (.inr (hv.up_self _))
  ·exact .inl (.inl (.inl (nb_dyn a hia hg)))
  ·rcases isT_or' hb with ⟨k, hk⟩ | ⟨hk, hkb⟩
   ·rw [numOf_at hk] at hg; omega
   ·rw [numOf_no hk] at hg
    exact .inl (.inl (.inr (nb_dyn b hkb hg)))
  ·omega
theorem shpsN {t : List C} {i : Nat} (h : i < t.length) : shN (shps t) i = (mbs t (nth t i).name).map (Mb.map (numOf t)) := by
 unfold shN shps shp
 rw [List.getD_eq_getElem?_getD, List.getElem?_map, of_nth h]
 rfl
theorem shps_l (t : List C) : (shps t).length = t.length := by unfold shps; simp
/-- A pair that goes is not struck out while no pair that goes is. -/
theorem goG_keep {t : List C} (hv : Valid t) {P : Nat → Nat → Bool} (hP : ∀ i k, i < t.length → k < t.length → inL (gfp (shps t)) i k = true → P i k = true) {i k : Nat} (hi : i < t.length) (hk : k < t.length) (h : inL (gfp (shps t)) i k = true) :
  hoR (goG t P) t (nth t i).name (nth t k).name = true := by
 obtain ⟨_, _, _, h4⟩ := gfp_closed (shps t) i k h
 rw [shpsN hi, shpsN hk, holds_map] at h4
 rw [hoR_holds hv (hv.isC hi)]
 exact holds_monoT (T := fun a => isT t a = true) (fun a b ha hb e => goesN_goG hv hP ha hb e) (mbs_isT hv _) (mbs_isT hv _) h4
theorem okAt_self {R : ByteArray → ByteArray → Bool} (h : ∀ a, R a a = true) (ar : Int) : ∀ (i : Nat) (l : List ByteArray), okAt R ar i l l = true
 | i, [] => by unfold okAt; rfl
 | i, a :: l => by
  unfold okAt okP
  rw [h a, okAt_self h ar (i + 1) l]
  simp
theorem goG_goesN {t : List C} (hv : Valid t) {P : Nat → Nat → Bool} {F : Nat → Nat → Bool} (hF : ∀ i k, i < t.length → k < t.length → (P i k = true ∨ (nth t k).name ∈ up t (nth t i).name) → F i k = true) {a b : ByteArray} (hg : goG t P a b = true) : goesN F (numOf t a) (numOf t b) = true := by
 unfold goG at hg
 unfold goesN
 simp only [Bool.or_eq_true, Bool.and_eq_true, decide_eq_true_eq] at hg ⊢
 have dyn : numOf t ⟨#[63]⟩ = -1 := by rw [numOf_no (at_no (isC_dyn hv))]; decide +kernel
 rcases hg with ((hg | hg) | hg) | hg
 ·rw [hg, dyn]; simp
 ·rw [hg, dyn]; simp
 ·rcases up_cls' hv hg with e | ⟨e1, e2⟩
  ·rw [e]; simp
  ·right
   obtain ⟨i, hi⟩ := at_isC.1 e1
   obtain ⟨k, hk⟩ := at_isC.1 e2
   obtain ⟨hi1, hi2⟩ := at_nth hi
   obtain ⟨hk1, hk2⟩ := at_nth hk
   rw [numOf_at hi, numOf_at hk]
   refine ⟨⟨by omega, by omega⟩, ?_⟩
   rw [Int.toNat_natCast, Int.toNat_natCast]
   refine hF i k hi1 hk1 (.inr ?_)
   rw [← hi2, ← hk2]
   exact hg
 ·cases hi : at' t a with
  | none => rw [hi] at hg; cases hg
  | some i =>
   cases hk : at' t b with
   | none => rw [hi, hk] at hg; cases hg
   | some k =>
    rw [hi, hk] at hg
    rw [numOf_at hi, numOf_at hk]
    exact .inr ⟨⟨by omega, by omega⟩, hF _ _ (at_nth hi).1 (at_nth hk).1 (.inl hg)⟩
/-- What is left at the end goes. -/
theorem goG_end {t : List C} (hv : Valid t) {P : Nat → Nat → Bool} (hE : ∀ i k, i < t.length → k < t.length → P i k = true → (nth t k).name ∈ up t (nth t i).name ∨ hoR (goG t P) t (nth t i).name (nth t k).name = true) {i k : Nat} (hi : i < t.length) (hk : k < t.length) (h : P i k = true) : inL (gfp (shps t)) i k = true := by
 let F : Nat → Nat → Bool := fun i k => (decide (i < t.length) && decide (k < t.length)) && (P i k || decide ((nth t k).name ∈ up t (nth t i).name))
 have hFi : ∀ i k, i < t.length → k < t.length → (P i k = true ∨ (nth t k).name ∈ up t (nth t i).name) → F i k = true := by
  intro i k hi hk h
  show ((decide (i < t.length) && decide (k < t.length)) && (P i k || decide ((nth t k).name ∈ up t (nth t i).name))) = true
  rw [decide_eq_true hi, decide_eq_true hk]
  rcases h with h | h
  ·rw [h]; rfl
  ·rw [decide_eq_true h]; simp
 have hC : Closed (shps t) F := by
  intro i k hF
  have hF : ((decide (i < t.length) && decide (k < t.length)) && (P i k || decide ((nth t k).name ∈ up t (nth t i).name))) = true := hF
  simp only [Bool.or_eq_true, Bool.and_eq_true, decide_eq_true_eq] at hF
  obtain ⟨⟨hi, hk⟩, hF⟩ := hF
  have key : holds (goesN F) (shN (shps t) i) (shN (shps t) k) = true := by
   rw [shpsN hi, shpsN hk, holds_map]
   have hup : (nth t k).name ∈ up t (nth t i).name → holds (fun a b => goesN F (numOf t a) (numOf t b)) (mbs t (nth t i).name) (mbs t (nth t k).name) = true := by
    intro hu
    unfold holds
    rw [List.all_eq_true]
    intro m hm
    obtain ⟨x, hx, ha, ht⟩ := mbs_up hv i hi hu m hm
    rw [List.any_eq_true]
    refine ⟨x, hx, ?_⟩
    unfold okM
    rw [ha, ht, okAt_self (fun a => by unfold goesN; simp)]
    rfl
   rcases hF with hF | hF
   ·rcases hE i k hi hk hF with hF | hF
    ·exact hup hF
    ·rw [hoR_holds hv (hv.isC hi)] at hF
     exact holds_mono (fun a b e => goG_goesN hv hFi e) hF
   ·exact hup hF
  exact ⟨by rw [shps_l]; exact hi, by rw [shps_l]; exact hk, holds_hasB key, key⟩
 unfold inL
 exact decide_eq_true (gfp_greatest hC (hFi i k hi hk (.inl h)))
theorem ats_true {t : List C} (ho : ok t = true) {s u : ByteArray} (hs : isT t s = true) (hu : isT t u = true) : ats t s u = true := by
 unfold ats; rw [hs, hu, ho]; rfl
/-- P7.2 by the matrix. -/
theorem goG_goes {t : List C} (ho : ok t = true) {P : Nat → Nat → Bool} (hP : ∀ i k, i < t.length → k < t.length → P i k = inL (gfp (shps t)) i k) {s u : ByteArray} (hs : isT t s = true) (hu : isT t u = true) : goes t s u = goG t P s u := by
 have hv := ok_valid ho
 unfold goes goG
 by_cases h1 : s = ⟨#[63]⟩
 ·rw [if_pos h1, ats_true ho hu hu, decide_eq_true h1]; simp
 ·rw [if_neg h1]
  by_cases h2 : u = ⟨#[63]⟩
  ·rw [if_pos h2, ats_true ho hs hs, decide_eq_true h2]; simp
  ·rw [if_neg h2, decide_eq_false h1, decide_eq_false h2]
   have e1 : sub t s u = decide (u ∈ up t s) := by unfold sub; rw [ats_true ho hs hu]; rfl
   rw [e1]
   by_cases h3 : u ∈ up t s
   ·rw [decide_eq_true h3]; simp
   ·rw [decide_eq_false h3, Bool.or_false, Bool.or_false, Bool.false_or]
    unfold has
    cases hi : at' t s with
    | none =>
     have : isC t s = false := by cases h : isC t s with
      | false => rfl
      | true => obtain ⟨i, e⟩ := at_isC.1 h; rw [hi] at e; cases e
     rw [this]; rfl
    | some i =>
     cases hk : at' t u with
     | none =>
      have : isC t u = false := by cases h : isC t u with
       | false => rfl
       | true => obtain ⟨i, e⟩ := at_isC.1 h; rw [hk] at e; cases e
      rw [this]; simp
     | some k =>
      obtain ⟨hi1, hi2⟩ := at_nth hi
      obtain ⟨hk1, hk2⟩ := at_nth hk
      have hik : ¬ (i : Int) = (k : Int) := by
       intro e
       have : i = k := by omega
       subst this
       exact h3 (by rw [hk2, ← hi2]; exact hv.up_self _)
      rw [at_isC.2 ⟨i, hi⟩, at_isC.2 ⟨k, hk⟩, ho, numOf_at hi, numOf_at hk]
      simp only [hP i k hi1 hk1, Bool.true_and, Bool.false_or]
      have hg : goesN (inL (gfp (shps t))) (i : Int) (k : Int) = inL (gfp (shps t)) i k := by
       unfold goesN
       rw [decide_eq_false hik]
       simp <;> omega
      rw [hg]
      cases hq : inL (gfp (shps t)) i k with
      | false => simp
      | true =>
       have := (gfp_start (show (i, k) ∈ gfp (shps t) from of_decide_eq_true hq)).2.2
       rw [shpsN hi1, shpsN hk1, ← hi2, ← hk2] at this
       unfold shp
       rw [this]
       rfl
/-! P8.1 by a matrix -/
/-! Matrices: how many pairs are left, and striking one out. -/
end Go.Proofs.YthooiofaicdhgaaGreatDoor.Tab
namespace Go.Proofs.YthooiofaicdhgaaGreatDoor
open Go.ChangeShapes Go.WideShapes Go.ChangeAt Go.RowKit
namespace Tab
end Tab
end Go.Proofs.YthooiofaicdhgaaGreatDoor
namespace Go.Proofs.YthooiofaicdhgaaGreatDoor
open Go.ChangeShapes Go.WideShapes Go.ChangeAt Go.RowKit
namespace Tab
end Tab
end Go.Proofs.YthooiofaicdhgaaGreatDoor
