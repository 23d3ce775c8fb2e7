/- Trees in plain words (Nd: all nodes in the order of their places, how many, how deep) and in memory (NdAt: six cells a node; KidsAt: a slice of nodes). -/
import Derived.Test.YtgdmcdjkmgpkpaaDoorRow
import Derived.Test.YtgdmcdjkmgpkpaaDoorApk
import Derived.Lib.Hide
set_option linter.unusedSimpArgs false
set_option linter.unusedVariables false
set_option maxRecDepth 100000
namespace Go.Proofs.YtgdmcdjkmgpkpaaDoor
open Go.ChangeShapes Go.WideShapes Go.ChangeAt Go.RowKit

inductive Nd where
  | mk (kind : Int) (text typ frm : ByteArray) (n : Int) (kids : List Nd)

namespace Nd
def kind : Nd → Int | mk k _ _ _ _ _ => k
def text : Nd → ByteArray | mk _ t _ _ _ _ => t
def typ : Nd → ByteArray | mk _ _ y _ _ _ => y
def frm : Nd → ByteArray | mk _ _ _ f _ _ => f
def n : Nd → Int | mk _ _ _ _ n _ => n
def kids : Nd → List Nd | mk _ _ _ _ _ ks => ks
theorem eta (x : Nd) : mk x.kind x.text x.typ x.frm x.n x.kids = x := by cases x; rfl

/-- What holds of a node where it holds of its kids. -/
theorem ind {P : Nd → Prop} (h : ∀ x : Nd, (∀ y ∈ x.kids, P y) → P x) (x : Nd) : P x :=
  Nd.rec (motive_1 := P) (motive_2 := fun l => ∀ y ∈ l, P y) (fun k t y f n ks ih => h _ ih) (fun y hy => by cases hy)
    (fun a l h1 h2 y hy => by rcases List.mem_cons.1 hy with rfl | hy; exact h1; exact h2 y hy) x

mutual
/-- All nodes of a tree, each with how many are above it, in the order of their places. -/
def all : Nd → Nat → List (Nat × Nd)
  | mk k t y f n ks, a => (a, mk k t y f n ks) :: allL ks (a + 1)
def allL : List Nd → Nat → List (Nat × Nd)
  | [], _ => []
  | x :: r, a => all x a ++ allL r a
end
theorem all_eq (x : Nd) (a : Nat) : x.all a = (a, x) :: allL x.kids (a + 1) := by cases x; rw [all]; rfl
theorem allL_nil (a : Nat) : allL [] a = [] := by rw [allL]
theorem allL_cons (x : Nd) (r : List Nd) (a : Nat) : allL (x :: r) a = x.all a ++ allL r a := by rw [allL]
theorem allL_app (l m : List Nd) (a : Nat) : allL (l ++ m) a = allL l a ++ allL m a := by
  induction l with
  | nil => rw [allL_nil]; rfl
  | cons x r ih => rw [List.cons_append, allL_cons, allL_cons, ih, List.append_assoc]

def count (x : Nd) : Nat := (x.all 0).length
def countL (l : List Nd) : Nat := (allL l 0).length
theorem len_all (x : Nd) : ∀ a b, (x.all a).length = (x.all b).length := by
  refine ind (P := fun x => ∀ a b, (x.all a).length = (x.all b).length) (fun x ih a b => ?_) x
  rw [all_eq, all_eq, List.length_cons, List.length_cons]
  congr 1
  have : ∀ (l : List Nd) (a b : Nat), (∀ y ∈ l, ∀ a b, (y.all a).length = (y.all b).length) → (allL l a).length = (allL l b).length := by
    intro l
    induction l with
    | nil => intros; simp [allL_nil]
    | cons y r ihr =>
      intro a b h
      rw [allL_cons, allL_cons, List.length_append, List.length_append, h y (by simp) a b, ihr a b (fun z hz => h z (List.mem_cons_of_mem _ hz))]
  exact this _ _ _ ih
theorem len_allL : ∀ (l : List Nd) (a : Nat), (allL l a).length = countL l
  | [], a => by simp [countL, allL_nil]
  | x :: r, a => by unfold countL; rw [allL_cons, allL_cons, List.length_append, List.length_append, len_all x a 0, len_allL r a, countL]
theorem count_eq (x : Nd) : x.count = 1 + countL x.kids := by unfold count; rw [all_eq, List.length_cons, len_allL]; omega
theorem count_pos (x : Nd) : 0 < x.count := by rw [count_eq]; omega
theorem countL_nil : countL [] = 0 := by simp [countL, allL_nil]
theorem countL_cons (x : Nd) (r : List Nd) : countL (x :: r) = x.count + countL r := by
  unfold countL count; rw [allL_cons, List.length_append]
theorem countL_app (l m : List Nd) : countL (l ++ m) = countL l + countL m := by unfold countL; rw [allL_app, List.length_append]
theorem len_le_countL : ∀ l : List Nd, l.length ≤ countL l
  | [] => by simp
  | x :: r => by rw [countL_cons, List.length_cons]; have := count_pos x; have := len_le_countL r; omega
theorem count_all (x : Nd) (a : Nat) : (x.all a).length = x.count := len_all x a 0
theorem count_kid {x y : Nd} (h : y ∈ x.kids) : y.count < x.count := by
  rw [count_eq x]
  obtain ⟨l, m, e⟩ := List.append_of_mem h
  rw [e, countL_app, countL_cons]; omega

/-- The fields of a node are such as Go has them. -/
def ok1 (x : Nd) : Prop := (-9223372036854775808 ≤ x.kind ∧ x.kind ≤ 9223372036854775807) ∧ (-9223372036854775808 ≤ x.n ∧ x.n ≤ 9223372036854775807) ∧ x.text.size ≤ maxLen ∧ x.typ.size ≤ maxLen ∧ x.frm.size ≤ maxLen
end Nd

abbrev ndV (x : Nd) (s : Value) : Value := .agg #[.int .i64 x.kind, .string x.text, .string x.typ, .string x.frm, .int .i64 x.n, s]
def ndC (x : Nd) (s : Value) : List Value := [.int .i64 x.kind, .string x.text, .string x.typ, .string x.frm, .int .i64 x.n, s]

/-- A tree's node in memory: six cells; all its blocks are such as D says. -/
inductive NdD (D : Nat → Prop) (w : World) : Nat → Nat → Nd → Prop
  | mk (b o : Nat) (x : Nd) (b' o' c : Nat) (ad : Option Addr) (hD : D b)
    (hc : ∀ j v, (ndC x (.slice ad x.kids.length c))[j]? = some v → w.cell? ⟨b, o + j, none⟩ = some v)
    (hok : x.ok1) (hl : x.kids.length ≤ c) (hm : c ≤ maxLen) (ha : x.kids = [] ∨ ad = some ⟨b', o', none⟩)
    (hs : ∀ i y, x.kids[i]? = some y → NdD D w b' (o' + i * 6) y) : NdD D w b o x
abbrev NdAt : World → Nat → Nat → Nd → Prop := NdD (fun _ => True)

/-- A slice of nodes. -/
abbrev KidsD (D : Nat → Prop) (w : World) (v : Value) (l : List Nd) : Prop := Row 6 (NdD D) w v l
abbrev KidsAt (w : World) (v : Value) (l : List Nd) : Prop := KidsD (fun _ => True) w v l

section
variable {D : Nat → Prop} {w w' : World} {b o : Nat} {x : Nd}
theorem NdD.open (h : NdD D w b o x) : ∃ ad c, (∀ j v, (ndC x (.slice ad x.kids.length c))[j]? = some v → w.cell? ⟨b, o + j, none⟩ = some v) ∧ x.ok1 ∧ KidsD D w (.slice ad x.kids.length c) x.kids ∧ D b := by
  cases h with
  | mk _ _ _ b' o' c ad hD hc hok hl hm ha hs =>
    refine ⟨ad, c, hc, hok, ⟨ad, c, rfl, hl, hm, fun i y hy => ?_⟩, hD⟩
    rcases ha with e | e
    · rw [e] at hy; simp at hy
    · exact ⟨b', o', e, hs i y hy⟩
theorem NdD.shut {ad : Option Addr} {c : Nat} (hc : ∀ j v, (ndC x (.slice ad x.kids.length c))[j]? = some v → w.cell? ⟨b, o + j, none⟩ = some v) (hok : x.ok1) (hk : KidsD D w (.slice ad x.kids.length c) x.kids) (hD : D b) : NdD D w b o x := by
  obtain ⟨a', c', e, hl, hm, hs⟩ := hk
  injection e with e1 e2 e3
  subst e1 e3
  cases hks : x.kids with
  | nil => exact .mk b o x 0 0 c ad hD hc hok hl hm (.inl hks) (fun i y hy => by rw [hks] at hy; simp at hy)
  | cons y r =>
    obtain ⟨b', o', e, _⟩ := hs 0 y (by rw [hks]; rfl)
    refine .mk b o x b' o' c ad hD hc hok hl hm (.inr e) (fun i y hy => ?_)
    obtain ⟨b2, o2, e2, h2⟩ := hs i y hy
    rw [e] at e2
    injection e2 with e2
    injection e2 with e3 e4
    subst e3 e4
    exact h2
theorem NdD.lt (h : NdD D w b o x) : b < w.heap.size := by
  cases h with
  | mk _ _ _ b' o' c ad hD hc hok hl hm ha hs => exact World.block_lt_of_cell? w ⟨b, o + 0, none⟩ (hc 0 _ rfl)
/-- What lies in blocks that are as they were. -/
theorem NdD.via (h : NdD D w b o x) (hw : ∀ k, k < w.heap.size → D k → w'.heap[k]? = w.heap[k]?) : NdD D w' b o x := by
  induction h with
  | mk b o x b' o' c ad hD hc hok hl hm ha hk ih =>
    have hb : b < w.heap.size := World.block_lt_of_cell? w ⟨b, o + 0, none⟩ (hc 0 _ rfl)
    refine .mk b o x b' o' c ad hD (fun j v hv => ?_) hok hl hm ha ih
    rw [World.cell?_of_block (w := w) (a := ⟨b, o + j, none⟩) (hw b hb hD)]
    exact hc j v hv
theorem NdD.kept (h : NdD D w b o x) (k : Kept w w') : NdD D w' b o x := h.via fun b hb _ => k.block b hb
theorem NdD.only {S : Nat → Prop} (h : NdD D w b o x) (k : Only S w w') (hs : ∀ k, D k → ¬ S k) : NdD D w' b o x := h.via fun b hb hd => k.block b hb (hs b hd)
theorem NdD.mono {E : Nat → Prop} (h : NdD D w b o x) (hd : ∀ k, k < w.heap.size → D k → E k) : NdD E w b o x := by
  induction h with
  | mk b o x b' o' c ad hD hc hok hl hm ha hk ih => exact .mk b o x b' o' c ad (hd b (World.block_lt_of_cell? w ⟨b, o + 0, none⟩ (hc 0 _ rfl)) hD) hc hok hl hm ha ih
theorem NdD.at (h : NdD D w b o x) : NdAt w b o x := h.mono fun _ _ _ => trivial
theorem NdD.low (h : NdD D w b o x) : NdD (fun k => k < w.heap.size) w b o x := h.mono fun _ h _ => h
theorem KidsD.kept {v : Value} {l : List Nd} (h : KidsD D w v l) (k : Kept w w') : KidsD D w' v l := Row.mono h fun _ _ _ h => h.kept k
theorem KidsD.only {S : Nat → Prop} {v : Value} {l : List Nd} (h : KidsD D w v l) (k : Only S w w') (hs : ∀ k, D k → ¬ S k) : KidsD D w' v l := Row.mono h fun _ _ _ h => h.only k hs
theorem KidsD.mono {E : Nat → Prop} {v : Value} {l : List Nd} (h : KidsD D w v l) (hd : ∀ k, k < w.heap.size → D k → E k) : KidsD E w v l := by
  obtain ⟨a, c, e, h1, h2, h3⟩ := h
  exact ⟨a, c, e, h1, h2, fun i x hx => by obtain ⟨b, o, e, r⟩ := h3 i x hx; exact ⟨b, o, e, r.mono hd⟩⟩
theorem KidsD.at {v : Value} {l : List Nd} (h : KidsD D w v l) : KidsAt w v l := h.mono fun _ _ _ => trivial
theorem KidsD.low {v : Value} {l : List Nd} (h : KidsD D w v l) : KidsD (fun k => k < w.heap.size) w v l := h.mono fun _ h _ => h
/-- The first node, and the others. -/
theorem KidsD.head {ad : Option Addr} {n c : Nat} {r : List Nd} (h : KidsD D w (.slice ad n c) (x :: r)) : ∃ b o, ad = some ⟨b, o, none⟩ ∧ n = r.length + 1 ∧ n ≤ c ∧ c ≤ maxLen ∧ NdD D w b o x ∧ KidsD D w (.slice (some ⟨b, o + 6, none⟩) r.length (c - 1)) r := by
  obtain ⟨a', c', e, hl, hm, hs⟩ := h
  injection e with e1 e2 e3
  subst e1 e3
  obtain ⟨b, o, rfl, h0⟩ := hs 0 x rfl
  rw [List.length_cons] at e2 hl
  refine ⟨b, o, rfl, e2, by omega, hm, by simpa using h0, some ⟨b, o + 6, none⟩, c - 1, rfl, by omega, by omega, fun i y hy => ?_⟩
  obtain ⟨b2, o2, e2', h2⟩ := hs (i + 1) y (by simpa using hy)
  injection e2' with e2'
  injection e2' with e3 e4
  subst e3 e4
  exact ⟨b, o + 6, rfl, by rw [show o + 6 + i * 6 = o + (i + 1) * 6 by omega]; exact h2⟩
theorem KidsD.one {g c : Nat} (h : NdD D w g 0 x) (hc : 1 ≤ c) (hm : c ≤ maxLen) : KidsD D w (.slice (some ⟨g, 0, none⟩) 1 c) [x] := by
  refine ⟨some ⟨g, 0, none⟩, c, rfl, hc, hm, fun i y hy => ?_⟩
  have hi : i = 0 := by have := (List.getElem?_eq_some_iff.1 hy).1; simp at this; exact this
  subst hi
  simp at hy
  subst hy
  exact ⟨g, 0, rfl, by simpa using h⟩

/-- What a node's cells are, one by one. -/
theorem NdD.cells (h : NdD D w b o x) : ∃ ad c, (w.cell? ⟨b, o, none⟩ = some (.int .i64 x.kind) ∧ w.cell? ⟨b, o + 1, none⟩ = some (.string x.text) ∧ w.cell? ⟨b, o + 2, none⟩ = some (.string x.typ) ∧
    w.cell? ⟨b, o + 3, none⟩ = some (.string x.frm) ∧ w.cell? ⟨b, o + 4, none⟩ = some (.int .i64 x.n) ∧ w.cell? ⟨b, o + 5, none⟩ = some (.slice ad x.kids.length c)) ∧ x.ok1 ∧ KidsD D w (.slice ad x.kids.length c) x.kids ∧ D b := by
  obtain ⟨ad, c, hc, hok, hk, hd⟩ := h.open
  exact ⟨ad, c, ⟨hc 0 _ rfl, hc 1 _ rfl, hc 2 _ rfl, hc 3 _ rfl, hc 4 _ rfl, hc 5 _ rfl⟩, hok, hk, hd⟩
end

/-- A node as a value. -/
def NdV (w : World) (v : Value) (x : Nd) : Prop := ∃ ad c, v = ndV x (.slice ad x.kids.length c) ∧ x.ok1 ∧ KidsAt w (.slice ad x.kids.length c) x.kids
theorem NdV.kept {w w' : World} {v : Value} {x : Nd} (h : NdV w v x) (k : Kept w w') : NdV w' v x := by
  obtain ⟨ad, c, e, hok, hk⟩ := h
  exact ⟨ad, c, e, hok, KidsD.kept hk k⟩
/-- A node's cells, in a block of its own. -/
theorem blk_node {D : Nat → Prop} {w : World} {x : Nd} {ad : Option Addr} {c : Nat} (hok : x.ok1) (hk : KidsD D w (.slice ad x.kids.length c) x.kids) {g : Nat} {t : TypeId} (hb : Blk w g t (ndC x (.slice ad x.kids.length c)).toArray) (hD : D g) : NdD D w g 0 x := by
  refine NdD.shut (fun j v hv => ?_) hok hk hD
  rw [Nat.zero_add, hb.cell j]
  simpa using hv

end Go.Proofs.YtgdmcdjkmgpkpaaDoor
