/- A value on its way: in memory; wrap. -/
import Derived.Test.YtdceafncncgfbaaDoorCvn
import Derived.Test.YtdceafncncgfbaaDoorChq
import Derived.Test.YtdceafncncgfbaaDoorWtb
set_option linter.unusedSimpArgs false
set_option linter.unusedVariables false
set_option maxRecDepth 100000
namespace Go.Proofs.YtdceafncncgfbaaDoor
open Go.ChangeShapes Go.WideShapes Go.ChangeAt Go.RowKit Go.Shelf
open Co (dd mb shown)

/-- A value, but for its chain. -/
structure Vw where
  tag : Int
  n : Int
  bits : Int
  s : ByteArray
abbrev vC (x : Vw) (ch : Value) : List Value := [.int .i64 x.tag, .int .i64 x.n, .int .u64 x.bits, .string x.s, ch]
abbrev vV (x : Vw) (ch : Value) : Value := .agg #[.int .i64 x.tag, .int .i64 x.n, .int .u64 x.bits, .string x.s, ch]
abbrev tT : TypeId := 103
abbrev lT : TypeId := 35
abbrev tC (x : Vw) (cv tv : Value) (came : Int) (sv : Value) (k : Int) : Array Value := #[.int .i64 x.tag, .int .i64 x.n, .int .u64 x.bits, .string x.s, cv, tv, .int .i64 came, sv, .int .i64 k]

/-- The view so far: none, or one that has looked at the first k layers, at the own class, and at nothing but classes of the chain and those in ex. -/
def SeenAt (bs : List Nat) (ex : List ByteArray) (s : ByteArray) (l : List Ly) (tv : Value) (t : List Tab.C) (sv : Value) (k : Nat) (W : World) : Prop :=
  (sv = .pointer none ∧ k = 0) ∨ ∃ g m1 m2 cs, sv = .pointer (some ⟨g, 0, none⟩) ∧ ViewAt g m1 m2 tv t s cs W ∧ (g ∈ bs ∧ m1 ∈ bs ∧ m2 ∈ bs) ∧ k ≤ l.length ∧ s ∈ cs ∧ (∀ c ∈ cs, c = s ∨ (∃ y ∈ l, y.cls = c) ∨ c ∈ ex) ∧ (∀ y ∈ l.take k, y.cls ∈ cs) ∧ cs.length ≤ 1 + k + 2 * l.length + ex.length

structure TrW (bs : List Nat) (ex : List ByteArray) (B : Nat) (x : Vw) (l : List Ly) (tv : Value) (t : List Tab.C) (came : Int) (cv sv : Value) (k : Nat) (W : World) : Prop where
  blk : Blk W B tT (tC x cv tv came sv k)
  row : W.ownsRow 0 lT 3 cv l.length (l.flatMap lCells)
  own : ∀ g, cv.ownBlock = some g → g ∈ bs
  hB : B ∈ bs
  fine : ∀ y ∈ l, y.cls.size ≤ maxLen
  seen : SeenAt bs ex x.s l tv t sv k W
def TrAt (bs : List Nat) (ex : List ByteArray) (B : Nat) (x : Vw) (l : List Ly) (tv : Value) (t : List Tab.C) (came : Int) (W : World) : Prop := ∃ cv sv k, TrW bs ex B x l tv t came cv sv k W

/-- One's own blocks are still one's own, and new ones. -/
def Moved (bs bs' : List Nat) (W W' : World) : Prop := Only (· ∈ bs) W W' ∧ ∀ k ∈ bs', k ∈ bs ∨ W.heap.size ≤ k
theorem Moved.refl (bs : List Nat) (W : World) : Moved bs bs W W := ⟨Only.refl _ _, fun _ h => .inl h⟩
theorem Moved.trans {b1 b2 b3 : List Nat} {W1 W2 W3 : World} (h : Moved b1 b2 W1 W2) (k : Moved b2 b3 W2 W3) : Moved b1 b3 W1 W3 :=
  ⟨h.1.trans' k.1 fun j hj hm => (h.2 j hm).elim id fun e => absurd hj (by omega), fun j hj => (k.2 j hj).elim (h.2 j) fun e => .inr (Nat.le_trans h.1.size e)⟩
theorem Moved.kept {bs : List Nat} {W W' : World} (k : Kept W W') : Moved bs bs W W' := ⟨Only.of_kept k, fun _ h => .inl h⟩
/-- What lay elsewhere is as it was. -/
theorem Moved.old {b1 b2 : List Nat} {w W W' : World} (h : Moved b1 b2 W W') (k : Kept w W) (hb : ∀ j ∈ b1, w.heap.size ≤ j) : Kept w W' ∧ ∀ j ∈ b2, w.heap.size ≤ j :=
  ⟨k.only h.1 rfl hb, fun j hj => (h.2 j hj).elim (hb j) fun e => Nat.le_trans k.size e⟩

theorem owns_onlyB {w w' : World} {S : Nat → Prop} {base k n : Nat} {e : TypeId} {v : Value} {xs : List Value} (h : w.ownsRow base e k v n xs) (ho : Only S w w') (hs : ∀ g, v.ownBlock = some g → ¬ S g) : w'.ownsRow base e k v n xs := by
  refine ⟨h.1, ?_⟩
  rcases h.2 with h | ⟨g, cap, cur, rfl, hb, hg, r⟩
  · exact .inl h
  · exact .inr ⟨g, cap, cur, rfl, hb, ho.same hg (hs g rfl), r⟩
theorem ne_row_map {w : World} {m n : Nat} {S : List Mbr} (h : SetM m n S w) {base k j : Nat} {e : TypeId} {v : Value} {xs : List Value} (hr : w.ownsRow base e k v j xs) : v.ownBlock ≠ some m := by
  rcases hr.2 with ⟨rfl, _⟩ | ⟨g', cap, cur, rfl, _, hh, _⟩
  · simp [Value.ownBlock]
  · intro e
    obtain rfl : g' = m := by simpa [Value.ownBlock] using e
    obtain ⟨es, ⟨_, _, hb, _⟩, _⟩ := h
    rw [hb] at hh; cases hh
theorem ne_row_mapF {w : World} {m n : Nat} {f : ByteArray → Option Value} (h : MapF Tryd.prog 9 m n f w) {base k j : Nat} {e : TypeId} {v : Value} {xs : List Value} (hr : w.ownsRow base e k v j xs) : v.ownBlock ≠ some m := by
  rcases hr.2 with ⟨rfl, _⟩ | ⟨g', cap, cur, rfl, _, hh, _⟩
  · simp [Value.ownBlock]
  · intro e
    obtain rfl : g' = m := by simpa [Value.ownBlock] using e
    obtain ⟨es, ⟨_, _, hb, _⟩, _⟩ := h
    rw [hb] at hh; cases hh
theorem blk_ne {w : World} {g h : Nat} {t u : TypeId} {cs ds : Array Value} (a : Blk w g t cs) (b : Blk w h u ds) (hne : t ≠ u) : g ≠ h := by
  rintro rfl
  unfold Blk at a b
  rw [a] at b
  injection b with b
  injection b with _ b
  exact hne b
theorem blk_ne_map {w : World} {g m n : Nat} {t : TypeId} {cs : Array Value} {S : List Mbr} (a : Blk w g t cs) (h : SetM m n S w) : g ≠ m := by
  rintro rfl
  obtain ⟨es, ⟨_, _, hb, _⟩, _⟩ := h
  unfold Blk at a
  rw [a] at hb; cases hb
theorem blk_ne_mapF {w : World} {g m n : Nat} {t : TypeId} {cs : Array Value} {f : ByteArray → Option Value} (a : Blk w g t cs) (h : MapF Tryd.prog 9 m n f w) : g ≠ m := by
  rintro rfl
  obtain ⟨es, ⟨_, _, hb, _⟩, _⟩ := h
  unfold Blk at a
  rw [a] at hb; cases hb

section
variable {bs bs' : List Nat} {ex : List ByteArray} {B : Nat} {x : Vw} {s : ByteArray} {l : List Ly} {tv : Value} {t : List Tab.C} {came : Int} {cv sv : Value} {k : Nat} {W W' : World}
theorem SeenAt.only {T : Nat → Prop} (h : SeenAt bs ex s l tv t sv k W) (ho : Only T W W') (hT : ∀ g, (∃ t cs, Blk W g t cs ∧ t = 91) ∨ (∃ n S, SetM g n S W) ∨ (∃ n f, MapF Tryd.prog 9 g n f W) → g ∈ bs → ¬ T g) : SeenAt bs ex s l tv t sv k W' := by
  rcases h with h | ⟨g, m1, m2, cs, h1, hv, hb, r⟩
  · exact .inl h
  · exact .inr ⟨g, m1, m2, cs, h1, hv.only ho (hT g (.inl ⟨_, _, hv.blk, rfl⟩) hb.1) (hT m1 (.inr (.inl ⟨_, _, hv.set⟩)) hb.2.1) (hT m2 (.inr (.inr ⟨_, _, hv.map⟩)) hb.2.2), hb, r⟩
theorem SeenAt.more (h : SeenAt bs ex s l tv t sv k W) (hb : ∀ g ∈ bs, g ∈ bs') : SeenAt bs' ex s l tv t sv k W := by
  rcases h with h | ⟨g, m1, m2, cs, h1, hv, ⟨b1, b2, b3⟩, r⟩
  · exact .inl h
  · exact .inr ⟨g, m1, m2, cs, h1, hv, ⟨hb _ b1, hb _ b2, hb _ b3⟩, r⟩
theorem SeenAt.lt (h : SeenAt bs ex s l tv t sv k W) : k ≤ l.length := by
  rcases h with ⟨_, h⟩ | ⟨g, m1, m2, cs, h1, hv, hb, r, _⟩
  · omega
  · exact r
/-- Some other turn of the world. -/
theorem TrW.only {T : Nat → Prop} (h : TrW bs ex B x l tv t came cv sv k W) (ho : Only T W W') (hT : ∀ g ∈ bs, ¬ T g) : TrW bs ex B x l tv t came cv sv k W' :=
  ⟨h.blk.only ho (hT _ h.hB), owns_onlyB h.row ho fun g e => hT g (h.own g e), h.own, h.hB, h.fine, h.seen.only ho fun g _ hg => hT g hg⟩
theorem TrAt.only {T : Nat → Prop} (h : TrAt bs ex B x l tv t came W) (ho : Only T W W') (hT : ∀ g ∈ bs, ¬ T g) : TrAt bs ex B x l tv t came W' := by
  obtain ⟨cv, sv, k, h⟩ := h
  exact ⟨cv, sv, k, h.only ho hT⟩
theorem TrW.kept (h : TrW bs ex B x l tv t came cv sv k W) (k' : Kept W W') : TrW bs ex B x l tv t came cv sv k W' := h.only (T := fun _ => False) (Only.of_kept k') (fun _ _ h => h)
theorem TrAt.kept (h : TrAt bs ex B x l tv t came W) (k' : Kept W W') : TrAt bs ex B x l tv t came W' := h.only (T := fun _ => False) (Only.of_kept k') (fun _ _ h => h)

/-- The box written anew; nothing else is touched. -/
theorem TrW.put (h : TrW bs ex B x l tv t came cv sv k W) (i : Nat) (u : Value) {cv' sv' : Value} {k' : Nat} (ho : Only (· = B) W W') (hb : Blk W' B tT (tC x cv' tv came sv' k')) (hr : W'.ownsRow 0 lT 3 cv' l.length (l.flatMap lCells)) (hw : ∀ g, cv'.ownBlock = some g → g ∈ bs) (hs : SeenAt bs ex x.s l tv t sv' k' W') : TrW bs ex B x l tv t came cv' sv' k' W' :=
  ⟨hb, hr, hw, h.hB, h.fine, hs⟩
/-- A layer appended behind: classes that only stood in ex stand in the chain. -/
theorem SeenAt.snoc {ex' : List ByteArray} (h : SeenAt bs ex s l tv t sv k W) (y : Ly) (he : ∀ c ∈ ex, c = y.cls ∨ c ∈ ex') (hl : ex.length ≤ ex'.length + 2) : SeenAt bs ex' s (l ++ [y]) tv t sv k W := by
  rcases h with h | ⟨g, m1, m2, cs, h1, hv, hb, r1, r2, r3, r4, r5⟩
  · exact .inl h
  · refine .inr ⟨g, m1, m2, cs, h1, hv, hb, by simp; omega, r2, fun c hc => ?_, fun z hz => ?_, by simp; omega⟩
    · rcases r3 c hc with e | ⟨z, hz, e⟩ | e
      · exact .inl e
      · exact .inr (.inl ⟨z, by simp [hz], e⟩)
      · rcases he c e with e | e
        · exact .inr (.inl ⟨y, by simp, e.symm⟩)
        · exact .inr (.inr e)
    · rw [List.take_append_of_le_length r1] at hz
      exact r4 z hz
end
end Go.Proofs.YtdceafncncgfbaaDoor
