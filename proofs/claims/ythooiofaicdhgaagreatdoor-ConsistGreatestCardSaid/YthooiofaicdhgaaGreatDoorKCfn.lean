/- Which type goes to which one, in plain words: a class' members with their types, what holds of a pair of classes, and the greatest relation. Members in memory; the order of texts; and the contract of a shape's find. The contract of a shape's has. -/
import Derived.Test.YthooiofaicdhgaaGreatDoorKVla
import Derived.Test.YthooiofaicdhgaaGreatDoorKTbf
import Derived.Deep.QuietTactic
import Derived.BigQuiet
import Derived.Sort.Walk0
set_option linter.unusedSimpArgs false
set_option linter.unusedVariables false
set_option maxRecDepth 100000
namespace Go.Proofs.YthooiofaicdhgaaGreatDoor.Tab
/-- A member: its types are those of its parameters, and then its own, or its result's. -/
structure Mb (α : Type) where
 name : ByteArray
 ar : Int
 types : List α
instance {α : Type} : Inhabited (Mb α) := ⟨⟨⟨#[]⟩, 0, []⟩⟩
def Mb.map {α β : Type} (f : α → β) (m : Mb α) : Mb β := ⟨m.name, m.ar, m.types.map f⟩
def mbF (f : V) : Mb ByteArray := ⟨f.name, -1, [f.typ]⟩
def mbM (m : M) : Mb ByteArray := ⟨m.name, m.params.length, m.params.map (·.typ) ++ [m.res]⟩
def mbs (t : List C) (c : ByteArray) : List (Mb ByteArray) := (fields t c).map mbF ++ (methods t c).map mbM
/-- In which direction the type at a place of a member goes. -/
def fwd (ar : Int) (i : Nat) : Bool := decide (ar < 0) || !decide ((i : Int) < ar)
def bwd (ar : Int) (i : Nat) : Bool := decide (ar < 0) || decide ((i : Int) < ar)
def okP {α : Type} (R : α → α → Bool) (ar : Int) (i : Nat) (a b : α) : Bool := (!fwd ar i || R a b) && (!bwd ar i || R b a)
def okAt {α : Type} (R : α → α → Bool) (ar : Int) : Nat → List α → List α → Bool
 | i, a :: l, b :: u => okP R ar i a b && okAt R ar (i + 1) l u
 | _, _, _ => true
def okM {α : Type} (R : α → α → Bool) (x m : Mb α) : Bool := okAt R m.ar 0 x.types m.types
def alike {α : Type} (x m : Mb α) : Bool := decide (x.name = m.name) && decide (x.ar = m.ar)
def hasB {α : Type} (l u : List (Mb α)) : Bool := u.all fun m => l.any fun x => alike x m
def holds {α : Type} (R : α → α → Bool) (l u : List (Mb α)) : Bool := u.all fun m => l.any fun x => alike x m && okM R x m
/-- The numbers of types. -/
def numOf (t : List C) (s : ByteArray) : Int := match at' t s with
 | some k => k
 | none => if s = ⟨#[63]⟩ then -1 else if s = ⟨#[105, 110, 116]⟩ then -2 else if s = ⟨#[114, 101, 97, 108]⟩ then -3 else if s = ⟨#[98, 111, 111, 108]⟩ then -4 else if s = ⟨#[115, 116, 114]⟩ then -5 else if s = ⟨#[117, 110, 105, 116]⟩ then -6 else 0
def goesN (L : Nat → Nat → Bool) (a b : Int) : Bool := decide (a = b) || decide (a = -1) || decide (b = -1) || (decide (0 ≤ a) && decide (0 ≤ b) && L a.toNat b.toNat)
/-- The members of all classes, by numbers of types. -/
def shp (t : List C) (c : ByteArray) : List (Mb Int) := (mbs t c).map (Mb.map (numOf t))
def shps (t : List C) : List (List (Mb Int)) := t.map fun c => shp t c.name
/-- All pairs of places. -/
def sqr (n : Nat) : List (Nat × Nat) := (List.range n).flatMap fun i => (List.range n).map fun k => (i, k)
theorem mem_sqr {n : Nat} {p : Nat × Nat} : p ∈ sqr n ↔ p.1 < n ∧ p.2 < n := by
 obtain ⟨i, k⟩ := p
 unfold sqr
 rw [List.mem_flatMap]
 constructor
 ·rintro ⟨a, ha, h⟩
  obtain ⟨b, hb, e⟩ := List.mem_map.1 h
  injection e with e1 e2
  subst e1 e2
  exact ⟨List.mem_range.1 ha, List.mem_range.1 hb⟩
 ·rintro ⟨h1, h2⟩
  exact ⟨i, List.mem_range.2 h1, List.mem_map.2 ⟨k, List.mem_range.2 h2, rfl⟩⟩
theorem sqr_length (n : Nat) : (sqr n).length = n * n := by
 unfold sqr
 rw [List.length_flatMap]
 simp [List.map_const']
def inL (L : List (Nat × Nat)) (i k : Nat) : Bool := decide ((i, k) ∈ L)
def shN (S : List (List (Mb Int))) (i : Nat) : List (Mb Int) := S.getD i []
def strikeL (S : List (List (Mb Int))) (L : List (Nat × Nat)) : List (Nat × Nat) := L.filter fun p => holds (goesN (inL L)) (shN S p.1) (shN S p.2)
def strikes (S : List (List (Mb Int))) : Nat → List (Nat × Nat) → List (Nat × Nat)
 | 0, L => L
 | n + 1, L => strikes S n (strikeL S L)
def start (S : List (List (Mb Int))) : List (Nat × Nat) := (sqr S.length).filter fun p => hasB (shN S p.1) (shN S p.2)
/-- The greatest relation. -/
def gfp (S : List (List (Mb Int))) : List (Nat × Nat) := strikes S (S.length * S.length) (start S)
/-- P7.1, P7.2 -/
def has (t : List C) (s u : ByteArray) : Bool := isC t s && isC t u && ok t && hasB (shp t s) (shp t u)
def goes (t : List C) (s u : ByteArray) : Bool :=
 if s = ⟨#[63]⟩ then ats t u u else if u = ⟨#[63]⟩ then ats t s s else sub t s u || (has t s u && goesN (inL (gfp (shps t))) (numOf t s) (numOf t u))
/-- What is closed in itself. -/
def Closed (S : List (List (Mb Int))) (F : Nat → Nat → Bool) : Prop := ∀ i k, F i k = true → i < S.length ∧ k < S.length ∧ hasB (shN S i) (shN S k) = true ∧ holds (goesN F) (shN S i) (shN S k) = true
theorem goesN_mono {F G : Nat → Nat → Bool} (h : ∀ i k, F i k = true → G i k = true) {a b : Int} (hg : goesN F a b = true) : goesN G a b = true := by
 unfold goesN at hg ⊢
 simp only [Bool.or_eq_true, Bool.and_eq_true] at hg ⊢
 rcases hg with hg | hg
 ·exact .inl hg
 ·exact .inr ⟨hg.1, h _ _ hg.2⟩
theorem okP_mono {α : Type} {R Q : α → α → Bool} (h : ∀ a b, R a b = true → Q a b = true) {ar : Int} {i : Nat} {a b : α} (hg : okP R ar i a b = true) : okP Q ar i a b = true := by
 unfold okP at hg ⊢
 simp only [Bool.or_eq_true, Bool.and_eq_true] at hg ⊢
 exact ⟨hg.1.imp_right (h _ _), hg.2.imp_right (h _ _)⟩
theorem okAt_mono {α : Type} {R Q : α → α → Bool} (h : ∀ a b, R a b = true → Q a b = true) {ar : Int} : ∀ {i : Nat} {l u : List α}, okAt R ar i l u = true → okAt Q ar i l u = true
 | i, [], u, _ => by unfold okAt; rfl
 | i, a :: l, [], _ => by unfold okAt; rfl
 | i, a :: l, b :: u, hg => by
  unfold okAt at hg ⊢
  simp only [Bool.and_eq_true] at hg ⊢
  exact ⟨okP_mono h hg.1, okAt_mono h hg.2⟩
theorem holds_mono {α : Type} {R Q : α → α → Bool} (h : ∀ a b, R a b = true → Q a b = true) {l u : List (Mb α)} (hg : holds R l u = true) : holds Q l u = true := by
 unfold holds at hg ⊢
 rw [List.all_eq_true] at hg ⊢
 intro m hm
 have := hg m hm
 rw [List.any_eq_true] at this ⊢
 obtain ⟨x, hx, e⟩ := this
 refine ⟨x, hx, ?_⟩
 simp only [Bool.and_eq_true] at e ⊢
 exact ⟨e.1, okAt_mono h e.2⟩
theorem holds_hasB {α : Type} {R : α → α → Bool} {l u : List (Mb α)} (hg : holds R l u = true) : hasB l u = true := by
 unfold holds at hg
 unfold hasB
 rw [List.all_eq_true] at hg ⊢
 intro m hm
 have := hg m hm
 rw [List.any_eq_true] at this ⊢
 obtain ⟨x, hx, e⟩ := this
 simp only [Bool.and_eq_true] at e
 exact ⟨x, hx, e.1⟩
theorem strikeL_sub {S : List (List (Mb Int))} {L : List (Nat × Nat)} {p : Nat × Nat} (h : p ∈ strikeL S L) : p ∈ L := (List.mem_filter.1 h).1
theorem strikeL_stable {S : List (List (Mb Int))} {L : List (Nat × Nat)} : strikeL S L = L ∨ (strikeL S L).length < L.length := by
 unfold strikeL
 by_cases h : ∀ p ∈ L, holds (goesN (inL L)) (shN S p.1) (shN S p.2) = true
 ·exact .inl (List.filter_eq_self.2 h)
 ·right
  refine Nat.lt_of_le_of_ne (List.length_filter_le _ _) fun e => h ?_
  exact List.length_filter_eq_length_iff.1 e
theorem strikes_stable {S : List (List (Mb Int))} : ∀ (n : Nat) (L : List (Nat × Nat)), L.length ≤ n → strikeL S (strikes S n L) = strikes S n L
 | 0, L, h => by
  have : L = [] := List.length_eq_zero_iff.1 (by omega)
  subst this; rfl
 | n + 1, L, h => by
  show strikeL S (strikes S n (strikeL S L)) = strikes S n (strikeL S L)
  rcases strikeL_stable (S := S) (L := L) with e | e
  ·have fx : ∀ m, strikes S m L = L := fun m => by
    induction m with
    | zero => rfl
    | succ m ih => show strikes S m (strikeL S L) = L; rw [e]; exact ih
   rw [e, fx, e]
  ·exact strikes_stable n _ (by omega)
theorem strikes_sub {S : List (List (Mb Int))} {p : Nat × Nat} : ∀ (n : Nat) (L : List (Nat × Nat)), p ∈ strikes S n L → p ∈ L
 | 0, _, h => h
 | n + 1, L, h => strikeL_sub (strikes_sub n _ h)
theorem strikes_keep {S : List (List (Mb Int))} {F : Nat → Nat → Bool} (hF : Closed S F) : ∀ (n : Nat) (L : List (Nat × Nat)), (∀ i k, F i k = true → (i, k) ∈ L) → ∀ i k, F i k = true → (i, k) ∈ strikes S n L
 | 0, _, h => h
 | n + 1, L, h => by
  refine strikes_keep hF n _ fun i k hik => ?_
  refine List.mem_filter.2 ⟨h i k hik, ?_⟩
  exact holds_mono (fun a b => goesN_mono fun i k h' => decide_eq_true (h i k h')) (hF i k hik).2.2.2
theorem gfp_start {S : List (List (Mb Int))} {i k : Nat} (h : (i, k) ∈ gfp S) : i < S.length ∧ k < S.length ∧ hasB (shN S i) (shN S k) = true := by
 have := strikes_sub _ _ h
 obtain ⟨h1, h2⟩ := List.mem_filter.1 this
 exact ⟨(mem_sqr.1 h1).1, (mem_sqr.1 h1).2, h2⟩
theorem gfp_closed (S : List (List (Mb Int))) : Closed S (inL (gfp S)) := by
 intro i k h
 have hm : (i, k) ∈ gfp S := of_decide_eq_true h
 obtain ⟨h1, h2, h3⟩ := gfp_start hm
 refine ⟨h1, h2, h3, ?_⟩
 have hs : strikeL S (gfp S) = gfp S := strikes_stable _ _ (by
  rw [← sqr_length]; exact List.length_filter_le _ _)
 rw [← hs] at hm
 exact (List.mem_filter.1 hm).2
theorem gfp_greatest {S : List (List (Mb Int))} {F : Nat → Nat → Bool} (hF : Closed S F) {i k : Nat} (h : F i k = true) : (i, k) ∈ gfp S := by
 refine strikes_keep hF _ _ (fun i k hik => ?_) i k h
 obtain ⟨h1, h2, h3, _⟩ := hF i k hik
 exact List.mem_filter.2 ⟨mem_sqr.2 ⟨h1, h2⟩, h3⟩
/-- What is closed, and holds all that is, is the greatest one. -/
theorem gfp_eq {S : List (List (Mb Int))} {F : Nat → Nat → Bool} (hF : Closed S F) (hG : ∀ i k, inL (gfp S) i k = true → F i k = true) (i k : Nat) : F i k = inL (gfp S) i k := by
 cases h : F i k with
 | true => exact (decide_eq_true (gfp_greatest hF h)).symm
 | false =>
  cases h2 : inL (gfp S) i k with
  | false => rfl
  | true => rw [hG i k h2] at h; cases h
end Go.Proofs.YthooiofaicdhgaaGreatDoor.Tab
namespace Go.Proofs.YthooiofaicdhgaaGreatDoor.Tab
/-- The order of texts. -/
def lt (a b : ByteArray) : Bool := Op.bytesLess a.toList b.toList
theorem bl_irr : ∀ l : List UInt8, Op.bytesLess l l = false
 | [] => rfl
 | a :: r => by
  have h : ¬ a < a := by simp [UInt8.lt_irrefl]
  simp [Op.bytesLess, h, bl_irr r]
theorem bl_trans : ∀ l m n : List UInt8, Op.bytesLess l m = true → Op.bytesLess m n = true → Op.bytesLess l n = true
 | _, [], _, h, _ => by cases ‹List UInt8› <;> simp [Op.bytesLess] at h
 | _, _ :: _, [], _, h => by simp [Op.bytesLess] at h
 | [], _ :: _, _ :: _, _, _ => by simp [Op.bytesLess]
 | a :: l, b :: m, c :: n, h1, h2 => by
  simp only [Op.bytesLess, Bool.or_eq_true, Bool.and_eq_true, decide_eq_true_eq, beq_iff_eq] at h1 h2 ⊢
  rcases h1 with h1 | ⟨rfl, h1⟩
  ·rcases h2 with h2 | ⟨rfl, h2⟩
   ·exact .inl (UInt8.lt_trans h1 h2)
   ·exact .inl h1
  ·rcases h2 with h2 | ⟨rfl, h2⟩
   ·exact .inl h2
   ·exact .inr ⟨rfl, bl_trans l m n h1 h2⟩
theorem bl_total : ∀ l m : List UInt8, Op.bytesLess l m = false → Op.bytesLess m l = false → l = m
 | [], [], _, _ => rfl
 | [], _ :: _, h, _ => by simp [Op.bytesLess] at h
 | _ :: _, [], _, h => by simp [Op.bytesLess] at h
 | a :: l, b :: m, h1, h2 => by
  simp only [Op.bytesLess, Bool.or_eq_false_iff, Bool.and_eq_false_iff, decide_eq_false_iff_not, beq_eq_false_iff_ne] at h1 h2
  have hab : a = b := by
   have x1 := UInt8.not_lt.1 h1.1
   have x2 := UInt8.not_lt.1 h2.1
   exact UInt8.le_antisymm x2 x1
  subst hab
  rcases h1.2 with h | h
  ·exact absurd rfl h
  ·rcases h2.2 with h' | h'
   ·exact absurd rfl h'
   ·rw [bl_total l m h h']
theorem lt_irr (a : ByteArray) : lt a a = false := bl_irr _
theorem lt_trans {a b c : ByteArray} (h : lt a b = true) (k : lt b c = true) : lt a c = true := bl_trans _ _ _ h k
theorem toList_inj {a b : ByteArray} (h : a.toList = b.toList) : a = b := by
 rw [ByteArray.toList_eq, ByteArray.toList_eq] at h
 exact ByteArray.ext (Array.toList_inj.1 h)
theorem lt_total {a b : ByteArray} (h : lt a b = false) (k : lt b a = false) : a = b := toList_inj (bl_total _ _ h k)
/-- Names ascend. -/
def Asc {α : Type} (l : List (Mb α)) : Prop := l.Pairwise fun x y => lt x.name y.name = true
/-- From a place on, the first one whose name is not ahead of that name. -/
def seek {α : Type} (L : List (Mb α)) (k : Nat) (nm : ByteArray) : Nat := k + (L.drop k).findIdx fun x => !lt x.name nm
def hit {α : Type} (L : List (Mb α)) (k : Nat) (nm : ByteArray) : Bool := match L[k]? with
 | some x => decide (x.name = nm)
 | none => false
theorem seek_end {α : Type} {L : List (Mb α)} {nm : ByteArray} : seek L L.length nm = L.length := by unfold seek; simp
theorem seek_here {α : Type} {L : List (Mb α)} {nm : ByteArray} {k : Nat} {x : Mb α} (h : L[k]? = some x) (hl : lt x.name nm = false) : seek L k nm = k := by
 obtain ⟨hk, rfl⟩ := List.getElem?_eq_some_iff.1 h
 unfold seek
 rw [List.drop_eq_getElem_cons hk, List.findIdx_cons, hl]; rfl
theorem seek_next {α : Type} {L : List (Mb α)} {nm : ByteArray} {k : Nat} {x : Mb α} (h : L[k]? = some x) (hl : lt x.name nm = true) : seek L k nm = seek L (k + 1) nm := by
 obtain ⟨hk, rfl⟩ := List.getElem?_eq_some_iff.1 h
 unfold seek
 rw [List.drop_eq_getElem_cons hk, List.findIdx_cons, hl]
 show k + (List.findIdx _ (L.drop (k + 1)) + 1) = _
 omega
theorem seek_le {α : Type} {L : List (Mb α)} {nm : ByteArray} {k : Nat} (h : k ≤ L.length) : seek L k nm ≤ L.length := by
 unfold seek
 have := List.findIdx_le_length (xs := L.drop k) (p := fun x => !lt x.name nm)
 rw [List.length_drop] at this
 omega
theorem hit_end {α : Type} {L : List (Mb α)} {nm : ByteArray} : hit L L.length nm = false := by unfold hit; simp
theorem hit_at {α : Type} {L : List (Mb α)} {nm : ByteArray} {k : Nat} {x : Mb α} (h : L[k]? = some x) : hit L k nm = decide (x.name = nm) := by unfold hit; rw [h]
/-- Behind a search all names ahead are ahead of that name. -/
theorem seek_before {α : Type} {L : List (Mb α)} {nm : ByteArray} {k : Nat} (h : ∀ i x, i < k → L[i]? = some x → lt x.name nm = true) : ∀ i x, i < seek L k nm → L[i]? = some x → lt x.name nm = true := by
 intro i x hi hx
 by_cases hk : i < k
 ·exact h i x hk hx
 ·unfold seek at hi
  obtain ⟨hl, rfl⟩ := List.getElem?_eq_some_iff.1 hx
  have := List.not_of_lt_findIdx (xs := L.drop k) (p := fun x => !lt x.name nm) (i := i - k) (by omega)
  simp only [List.getElem_drop] at this
  have e : k + (i - k) = i := by omega
  simp only [e] at this
  simpa using this
/-- What a search finds, it finds just if it is there. -/
theorem seek_hit {α : Type} {L : List (Mb α)} (hA : Asc L) {nm : ByteArray} {k : Nat} (hk : k ≤ L.length) (h : ∀ i x, i < k → L[i]? = some x → lt x.name nm = true) {j : Nat} {x : Mb α} (hx : L[j]? = some x) (hn : x.name = nm) : j = seek L k nm := by
 obtain ⟨hj, rfl⟩ := List.getElem?_eq_some_iff.1 hx
 have hb := seek_before h
 have hle := seek_le (nm := nm) hk
 rcases Nat.lt_trichotomy j (seek L k nm) with e | e | e
 ·have := hb j _ e (List.getElem?_eq_getElem hj)
  rw [hn, lt_irr] at this; cases this
 ·exact e
 ·have hs : seek L k nm < L.length := by omega
  have h1 : lt L[seek L k nm].name nm = true := by
   have := List.pairwise_iff_getElem.1 hA (seek L k nm) j hs hj e
   rwa [hn] at this
  have h2 : (L.drop k).findIdx (fun x => !lt x.name nm) < (L.drop k).length := by unfold seek at hs; rw [List.length_drop]; omega
  have := List.findIdx_getElem (w := h2)
  simp only [List.getElem_drop] at this
  have h3 : (!lt L[seek L k nm].name nm) = true := this
  rw [h1] at h3; cases h3
end Go.Proofs.YthooiofaicdhgaaGreatDoor.Tab
namespace Go.Proofs.YthooiofaicdhgaaGreatDoor
open Go.ChangeShapes Go.WideShapes Go.ChangeAt Go.RowKit
def IntAt (w : World) (b o : Nat) (n : Int) : Prop := w.cell? ⟨b, o, none⟩ = some (.int .i64 n)
def MbAt (w : World) (b o : Nat) (x : Tab.Mb Int) : Prop :=
 w.cell? ⟨b, o, none⟩ = some (.string x.name) ∧ w.cell? ⟨b, o + 1, none⟩ = some (.int .i64 x.ar) ∧ (∃ v, w.cell? ⟨b, o + 2, none⟩ = some v ∧ Row 1 IntAt w v x.types) ∧ x.name.size ≤ maxLen
abbrev ShpAt (w : World) (v : Value) (L : List (Tab.Mb Int)) : Prop := Row 3 MbAt w v L
theorem MbAt.kept {w w' : World} {b o : Nat} {x : Tab.Mb Int} (h : MbAt w b o x) (k : Kept w w') : MbAt w' b o x := by
 obtain ⟨h1, h2, ⟨v, h3, h4⟩, h5⟩ := h
 exact ⟨k.cell h1, k.cell h2, ⟨v, k.cell h3, h4.mono fun _ _ _ r => k.cell r⟩, h5⟩
theorem shp_kept {w w' : World} {v : Value} {l : List (Tab.Mb Int)} (h : ShpAt w v l) (k : Kept w w') : ShpAt w' v l := h.mono fun _ _ _ r => r.kept k
set_option maxHeartbeats 2000000 in
theorem cfind_c (L : List (Tab.Mb Int)) (a : Option Addr) (c k : Nat) (nm : ByteArray) (w : World) (h : ShpAt w (.slice a L.length c) L) (hk : k ≤ L.length) :
  Calls Tryz.prog 139 #[.slice a L.length c, .int .i64 k, .string nm] w fun e w' => e = .returned (.tuple #[.int .i64 (Tab.seek L k nm : Nat), .bool (Tab.hit L (Tab.seek L k nm) nm)]) ∧ Kept w w' := by
 obtain ⟨a', c', e, hlc, hcm, hat⟩ := h
 injection e with e1 _ e2
 subst e1 e2
 unfold maxLen at hcm
 obtain ⟨sk, hsk⟩ : ∃ sk, sk = Tab.seek L k nm := ⟨_, rfl⟩
 obtain ⟨ht, hht⟩ : ∃ ht, ht = Tab.hit L sk nm := ⟨_, rfl⟩
 rw [← hsk, ← hht]
 have HSK := Lib.hid hsk
 have HHT := Lib.hid hht
 clear hsk hht
 go_enter Tryz.func139, Tryz.ntmps139
 go_wp2
 go_loopw [1] (fun i wr => ∃ j : Nat, j ≤ L.length ∧ i = .int .i64 j ∧ wr = w ∧ Hid (Tab.seek L j nm = sk)) (fun i wr => L.length - (intOf i).toNat)
 case atStart => exact ⟨k, hk, rfl, by first | trivial | rfl, Lib.hid HSK.out.symm⟩
 case round =>
  obtain ⟨j, hj, rfl, rfl, hs⟩ := hrel
  by_cases hlt : j < L.length
  ·have hx : L[j]? = some L[j] := List.getElem?_eq_getElem hlt
   obtain ⟨b, o, rfl, h0, h1, h2, h3⟩ := hat j _ hx
   generalize L[j] = x at hx h0 h1 h2 h3
   have hltI : (j : Int) < (L.length : Int) := by omega
   cases hb : Tab.lt x.name nm with
   | true =>
    have HN := Lib.hid ((Tab.seek_next hx hb).symm.trans hs.out)
    have hb' : Op.bytesLess x.name.toList nm.toList = true := hb
    clear hs hat hx hb h1 h2 h3
    go_wp2_with fail
    go_roundw
    case rel => exact ⟨j + 1, by omega, by go_num, by first | trivial | rfl, HN⟩
    case measure => simp [intOf]; omega
   | false =>
    have hb' : Op.bytesLess x.name.toList nm.toList = false := hb
    have e : sk = j := hs.out.symm.trans (Tab.seek_here hx hb)
    have eh : Tab.hit L j nm = decide (x.name = nm) := Tab.hit_at hx
    have HE := Lib.hid e
    have HH := Lib.hid ((HHT.out.trans (by rw [e])).trans eh)
    clear hs hat hx hb h1 h2 h3 e eh
    by_cases hn : x.name = nm
    ·have hq := beq_yes hn
     have HQ := Lib.hid (HH.out.trans (decide_eq_true hn))
     clear hn
     go_wp2_with fail
     go_quiet (fail)
     go_wp2_with fail
     go_ret2
     exact ⟨by rw [HE.out, HQ.out]; rfl, (Kept.refl _).drewN _⟩
    ·have hq := beq_no hn
     have HQ := Lib.hid (HH.out.trans (decide_eq_false hn))
     clear hn
     go_wp2_with fail
     go_quiet (fail)
     go_wp2_with fail
     go_ret2
     exact ⟨by rw [HE.out, HQ.out]; rfl, (Kept.refl _).drewN _⟩
  ·have hltI : ¬ (j : Int) < (L.length : Int) := by omega
   obtain rfl : j = L.length := by omega
   have e : sk = L.length := hs.out.symm.trans Tab.seek_end
   have HE := Lib.hid e
   have HQ := Lib.hid ((HHT.out.trans (by rw [e])).trans Tab.hit_end)
   clear hs hat e
   go_wp2_with fail
   go_quiet (fail)
   go_wp2_with fail
   go_ret2
   exact ⟨by rw [HE.out, HQ.out]; rfl, (Kept.refl _).drewN _⟩
end Go.Proofs.YthooiofaicdhgaaGreatDoor
namespace Go.Proofs.YthooiofaicdhgaaGreatDoor.Tab
def has1 {α : Type} (L : List (Mb α)) (m : Mb α) : Bool := L.any fun x => alike x m
theorem all_no {α : Type} {p : α → Bool} {U : List α} {j : Nat} {m : α} (h : U[j]? = some m) (hp : p m = false) : U.all p = false := by
 rw [List.all_eq_false]
 exact ⟨m, List.mem_of_getElem? h, by simp [hp]⟩
theorem all_yes {α : Type} {p : α → Bool} {U : List α} (h : (U.take U.length).all p = true) : U.all p = true := by rwa [List.take_length] at h
theorem all_next {α : Type} {p : α → Bool} {U : List α} {j : Nat} {m : α} (h : (U.take j).all p = true) (hm : U[j]? = some m) (hp : p m = true) : (U.take (j + 1)).all p = true := by
 rw [List.take_add_one, hm, List.all_append, h]; simp [hp]
/-- All names of the first k of L are ahead of all names of U from j on. -/
def Ahead {α β : Type} (L : List (Mb α)) (k : Nat) (U : List (Mb β)) (j : Nat) : Prop := ∀ i x, i < k → L[i]? = some x → ∀ q y, j ≤ q → U[q]? = some y → lt x.name y.name = true
theorem Ahead.start {α β : Type} (L : List (Mb α)) (U : List (Mb β)) (j : Nat) : Ahead L 0 U j := fun i x h => by omega
theorem Ahead.next {α β : Type} {L : List (Mb α)} {k : Nat} {U : List (Mb β)} {j : Nat} (hU : Asc U) (h : Ahead L k U j) {m : Mb β} (hm : U[j]? = some m) : Ahead L (seek L k m.name) U (j + 1) := by
 intro i x hi hx q y hq hy
 have h1 := seek_before (fun i x hi hx => h i x hi hx j m (Nat.le_refl _) hm) i x hi hx
 obtain ⟨hj, rfl⟩ := List.getElem?_eq_some_iff.1 hm
 obtain ⟨hq', rfl⟩ := List.getElem?_eq_some_iff.1 hy
 exact lt_trans h1 (List.pairwise_iff_getElem.1 hU j q hj hq' (by omega))
theorem Ahead.at {α β : Type} {L : List (Mb α)} {k : Nat} {U : List (Mb β)} {j : Nat} (h : Ahead L k U j) {m : Mb β} (hm : U[j]? = some m) : ∀ i x, i < k → L[i]? = some x → lt x.name m.name = true :=
 fun i x hi hx => h i x hi hx j m (Nat.le_refl _) hm
theorem hit_some {α : Type} {L : List (Mb α)} {k : Nat} {nm : ByteArray} (h : hit L k nm = true) : ∃ x, L[k]? = some x ∧ x.name = nm := by
 unfold hit at h
 split at h
 ·rename_i x hx; exact ⟨x, hx, of_decide_eq_true h⟩
 ·cases h
theorem miss_none {α : Type} {L : List (Mb α)} (hA : Asc L) {nm : ByteArray} {k : Nat} (hk : k ≤ L.length) (hb : ∀ i x, i < k → L[i]? = some x → lt x.name nm = true) (h : hit L (seek L k nm) nm = false) : ∀ x ∈ L, ¬ x.name = nm := by
 intro x hx e
 obtain ⟨j, hj, rfl⟩ := List.getElem_of_mem hx
 have := seek_hit hA hk hb (List.getElem?_eq_getElem hj) e
 have hx' : L[seek L k nm]? = some L[j] := by rw [← this]; exact List.getElem?_eq_getElem hj
 rw [hit_at hx'] at h
 exact absurd e (of_decide_eq_false h)
theorem has1_no {α : Type} {L : List (Mb α)} (hA : Asc L) {m : Mb α} {k : Nat} (hk : k ≤ L.length) (hb : ∀ i x, i < k → L[i]? = some x → lt x.name m.name = true) (h : hit L (seek L k m.name) m.name = false) : has1 L m = false := by
 unfold has1
 rw [List.any_eq_false]
 intro x hx
 have := miss_none hA hk hb h x hx
 simp [alike, this]
theorem asc_eq {α : Type} {L : List (Mb α)} (hA : Asc L) {x y : Mb α} {i : Nat} (hx : L[i]? = some x) (hy : y ∈ L) (e : y.name = x.name) : y = x := by
 obtain ⟨j, hj, rfl⟩ := List.getElem_of_mem hy
 obtain ⟨hi, rfl⟩ := List.getElem?_eq_some_iff.1 hx
 rcases Nat.lt_trichotomy j i with q | q | q
 ·have := List.pairwise_iff_getElem.1 hA j i hj hi q
  rw [e, lt_irr] at this; cases this
 ·subst q; rfl
 ·have := List.pairwise_iff_getElem.1 hA i j hi hj q
  rw [e, lt_irr] at this; cases this
theorem has1_at {α : Type} {L : List (Mb α)} (hA : Asc L) {m x : Mb α} {i : Nat} (hx : L[i]? = some x) (hn : x.name = m.name) : has1 L m = decide (x.ar = m.ar) := by
 unfold has1
 cases hd : decide (x.ar = m.ar) with
 | true => exact List.any_eq_true.2 ⟨x, List.mem_of_getElem? hx, by simp [alike, hn, of_decide_eq_true hd]⟩
 | false =>
  rw [List.any_eq_false]
  intro y hy
  by_cases e : y.name = m.name
  ·obtain rfl := asc_eq hA hx hy (e.trans hn.symm)
   have := of_decide_eq_false hd
   simp [alike, this]
  ·simp [alike, e]
end Go.Proofs.YthooiofaicdhgaaGreatDoor.Tab
namespace Go.Proofs.YthooiofaicdhgaaGreatDoor
open Go.ChangeShapes Go.WideShapes Go.ChangeAt Go.RowKit
set_option maxHeartbeats 4000000 in
theorem chas_c (L U : List (Tab.Mb Int)) (a a' : Option Addr) (c c' : Nat) (w : World) (h : ShpAt w (.slice a L.length c) L) (h' : ShpAt w (.slice a' U.length c') U) (hL : Tab.Asc L) (hU : Tab.Asc U) :
  Calls Tryz.prog 89 #[.slice a L.length c, .slice a' U.length c'] w fun e w' => e = .returned (.bool (Tab.hasB L U)) ∧ Kept w w' := by
 have HL := Lib.hid h
 obtain ⟨x1, x2, e, hlc, hcm, hat'⟩ := h'
 injection e with e1 _ e2
 subst e1 e2
 unfold maxLen at hcm
 have HAT := Lib.hid hat'
 have hLm : L.length ≤ 9223372036854775807 := by
  obtain ⟨_, _, e, q1, q2, _⟩ := h
  unfold maxLen at q2
  omega
 obtain ⟨hb, hhb⟩ : ∃ hb, hb = Tab.hasB L U := ⟨_, rfl⟩
 rw [← hhb]
 have HHB := Lib.hid hhb
 clear hhb hat' h
 go_enter Tryz.func89, Tryz.ntmps89
 go_wp2_with fail
 go_loopw [5, 11] (fun p q wr => ∃ k j : Nat, k ≤ L.length ∧ j ≤ U.length ∧ p = .int .i64 k ∧ q = .int .i64 j ∧ Kept w wr ∧ Tab.Ahead L k U j ∧ (U.take j).all (Tab.has1 L) = true) (fun p q wr => U.length - (intOf q).toNat)
 case atStart => exact ⟨0, 0, Nat.zero_le _, Nat.zero_le _, rfl, rfl, Kept.refl _, Tab.Ahead.start _ _ _, by simp⟩
 case round =>
  obtain ⟨k, j, hk, hj, rfl, rfl, hkp, hah, hall⟩ := hrel
  have HKP := Lib.hid hkp
  have HAH := Lib.hid hah
  have HALL := Lib.hid hall
  clear hah hall
  by_cases hlt : j < U.length
  ·have hx : U[j]? = some U[j] := List.getElem?_eq_getElem hlt
   obtain ⟨b, o, rfl, hm⟩ := HAT.out j _ hx
   generalize U[j] = m at hx hm
   obtain ⟨m0, m1, ⟨mv, m2, hmv⟩, hms⟩ := hm.kept hkp
   have HX := Lib.hid hx
   have hltI : (j : Int) < (U.length : Int) := by omega
   have HF := Lib.hid (fun W (kw : Kept w W) => cfind_c L a c k m.name W (shp_kept HL.out kw) hk)
   obtain ⟨va, vn, vc, rfl⟩ : ∃ va vn vc, mv = .slice va vn vc := by
    obtain ⟨va, vc, e, _⟩ := hmv
    exact ⟨_, _, _, e⟩
   clear hx hm hkp hmv hms
   go_wp2_with fail
   refine (HF.out _ (HKP.out.alloc _)).mono ?_
   rintro e w1 ⟨rfl, k1⟩
   have hB := (Blk.new wr 160 #[.string m.name, .int .i64 m.ar, .slice va vn vc]).kept k1
   have z1 := hB.cell 1
   simp only [List.getElem?_toArray, List.getElem?_cons_zero, List.getElem?_cons_succ] at z1
   have HK1 := Lib.hid ((HKP.out.alloc _).trans k1)
   have HSL := Lib.hid (Tab.seek_le (nm := m.name) hk)
   have HNX := Lib.hid (Tab.Ahead.next hU HAH.out HX.out)
   have HAT2 := Lib.hid (HAH.out.at HX.out)
   clear hB k1 m0 m1 m2
   cases hh : Tab.hit L (Tab.seek L k m.name) m.name with
   | false =>
    have HQ := Lib.hid (HHB.out.trans (Tab.all_no HX.out (Tab.has1_no hL hk HAT2.out hh)))
    clear hh
    generalize Tab.seek L k m.name = k2 at *
    go_wp2_with fail
    go_quiet (fail)
    go_wp2_with fail
    go_ret
    exact ⟨by rw [HQ.out]; rfl, HK1.out.drewN _⟩
   | true =>
    obtain ⟨x, hx, hn⟩ := Tab.hit_some hh
    have HH1 := Lib.hid (Tab.has1_at hL hx hn)
    obtain ⟨b2, o2, rfl, hm⟩ : ∃ b2 o2, a = some ⟨b2, o2, none⟩ ∧ MbAt w b2 (o2 + Tab.seek L k m.name * 3) x := by
     obtain ⟨y1, y2, e, _, _, q⟩ := HL.out
     injection e with e1 _ _
     subst e1
     exact q _ _ hx
    obtain ⟨n0, n1, _⟩ := hm.kept HK1.out
    have hklt : Tab.seek L k m.name < L.length := (List.getElem?_eq_some_iff.1 hx).1
    clear hh hx hn hm n0
    generalize Tab.seek L k m.name = k2 at *
    have hkltI : (k2 : Int) < (L.length : Int) := by omega
    by_cases ha : x.ar = m.ar
    ·have hd : (x.ar == m.ar) = true := by simp [ha]
     have hd2 : decide (x.ar = m.ar) = true := decide_eq_true ha
     have HA := Lib.hid (Tab.all_next HALL.out HX.out (HH1.out.trans hd2))
     have HAR := Lib.hid ha
     rw [ha] at n1
     clear ha hd hd2
     go_wp2_with fail
     go_quiet (fail)
     go_wp2_with fail
     go_roundw
     case rel => exact ⟨k2, j + 1, by omega, by omega, rfl, by go_num, HK1.out.drewN _, HNX.out, HA.out⟩
     case measure => simp [intOf]; omega
    ·have hd : (x.ar == m.ar) = false := by simp [ha]
     have hd2 : decide (x.ar = m.ar) = false := decide_eq_false ha
     have HQ := Lib.hid (HHB.out.trans (Tab.all_no HX.out (HH1.out.trans hd2)))
     go_wp2_with fail
     go_quiet (fail)
     go_wp2_with fail
     go_ret
     exact ⟨by rw [HQ.out]; rfl, HK1.out.drewN _⟩
  ·have hltI : ¬ (j : Int) < (U.length : Int) := by omega
   obtain rfl : j = U.length := by omega
   have HQ := Lib.hid (HHB.out.trans (Tab.all_yes HALL.out))
   go_wp2_with fail
   go_ret
   exact ⟨by rw [HQ.out]; rfl, HKP.out⟩
end Go.Proofs.YthooiofaicdhgaaGreatDoor
