/- The contract of table.Members. -/
import Derived.Test.YthooiofaicdhgaaGreatDoorFi2
import Derived.Test.YthooiofaicdhgaaGreatDoorMts
set_option linter.unusedSimpArgs false
set_option linter.unusedVariables false
set_option maxRecDepth 100000
namespace Go.Proofs.YthooiofaicdhgaaGreatDoor
open Go.ChangeShapes Go.WideShapes Go.ChangeAt Go.RowKit Go.Shelf

theorem wpList_apk {P : Program} {ops : Array Oper} {rest : List Oper} {o : Oper} {a : Act} {Q : Exit → Act → World → Prop} {w : World} (hgd : o.guard = none) (s x : Operand) (t tx : TypeId)
    (ho : o.op = .call { callee := .builtin .append, args := #[s, x], argTypes := #[t, tx] }) (base k : Nat) (e : TypeId) (i : TypeInfo) (z : Value) (bytes : Nat) (ht : P.underlying t = some (.slice e)) (hi : P.info? e = some i) (hz : i.zero = some z)
    (hsize : i.size = k) (hby : i.bytes = bytes) (hzs : z.cells.size = k)
    {v vx : Value} {n m : Nat} {xs news : List Value} (hs : a.eval s = v) (hown : w.ownsRow base e k v n xs) (hx : a.eval x = vx) (hsrc : Src P k tx vx m news w)
    (h63 : n + m ≤ maxLen) (hbytes : (n + m) * bytes ≤ 140737488355328) (hbase : base ≤ w.heap.size)
    (hK : ∀ v' w', w'.ownsRow base e k v' (n + m) (xs ++ news) → w.grownBy w' v.ownBlock → (v'.ownBlock = v.ownBlock ∨ v'.ownBlock = some w.heap.size) → wpList P ops Q rest (a.put o.dst v') w') : wpList P ops Q (o :: rest) a w :=
  wpList_plain hgd fun K' hk => by
    obtain ⟨v', w', hr, h2, h3, h4, h5⟩ := run_apk (P := P) w base k t tx o.type e i z bytes ht hi hz hsize hby hzs v n xs hown vx m news hsrc h63 hbytes hbase
    unfold Oper.wp execOp
    simp only [ho, resolve, invoke, builtin, Sem.run_bind, Sem.run_pure, Result.andThen_ok, List.map_toArray, List.map_cons, List.map_nil, hs, hx, hr]
    exact hk _ _ (hK v' w' h2 h3 h5)

def bCells (x : ByteArray × Int) : List Value := [.string x.1, .int .i64 x.2]
theorem bCells_len (x : ByteArray × Int) : (bCells x).length = 2 := rfl
theorem info_mem : (Tryz.prog.info? 169).map (fun i => (i.zero, i.size, i.bytes)) = some (some (.agg #[.string ⟨#[]⟩, .int .i64 0]), 2, 24) := by kernel_rfl

theorem src_two (w : World) (x : ByteArray × Int) : Src Tryz.prog 2 165 (.slice (some ⟨w.heap.size, 0, none⟩) 1 1) 1 (bCells x) (w.alloc (.cells #[.string x.1, .int .i64 x.2] 169)) := by
  refine Src.ofSlice _ Tryz.underlying165 ⟨w.heap.size, 0, none⟩ 1 1 (bCells x) rfl ?_ ?_
  · intro j u hu
    rw [addr_plain, (Blk.new w _ _).cell, Nat.zero_add]
    simpa [bCells] using hu
  · intro u hu
    simp [bCells] at hu
    rcases hu with rfl | rfl <;> rfl

/-- The members so far: a row of one's own; nothing but it has turned since w1. -/
def MemR (n₁ : Nat) (w1 : World) (l : List (ByteArray × Int)) (v : Value) (W : World) : Prop :=
  W.ownsRow n₁ 169 2 v l.length (l.flatMap bCells) ∧ Only (fun k => (n₁ ≤ k ∧ ∃ cs fr, w1.heap[k]? = some (.cells cs 169 fr)) ∨ w1.heap.size ≤ k) w1 W ∧
    ∀ g, v.ownBlock = some g → (n₁ ≤ g ∧ ∃ cs fr, w1.heap[g]? = some (.cells cs 169 fr)) ∨ w1.heap.size ≤ g

theorem MemR.next {n₁ : Nat} {w1 W X w2 : World} {l : List (ByteArray × Int)} {v v' : Value} {x : ByteArray × Int} (h : MemR n₁ w1 l v W) (hk : Kept W X)
    (hr : w2.ownsRow n₁ 169 2 v' (l.length + 1) (l.flatMap bCells ++ bCells x)) (hg : X.grownBy w2 v.ownBlock) (hl : v'.ownBlock = v.ownBlock ∨ v'.ownBlock = some X.heap.size) : MemR n₁ w1 (l ++ [x]) v' w2 := by
  refine ⟨by rw [List.length_append, List.flatMap_append]; simpa using hr, (h.2.1.trans (Only.of_kept hk)).grown hg fun k e => .inl (h.2.2 k e), fun g e => ?_⟩
  rcases hl with hl | hl
  · exact h.2.2 g (by rw [← hl]; exact e)
  · rw [hl] at e
    injection e with e
    have := h.2.1.size
    have := hk.size
    exact .inr (by omega)

theorem MemR.keep {n₁ : Nat} {w1 W X : World} {l : List (ByteArray × Int)} {v : Value} (h : MemR n₁ w1 l v W) (hk : Kept W X) : MemR n₁ w1 l v X :=
  ⟨owns_only (S := fun _ => False) h.1 (Only.of_kept hk) (fun _ _ h => h), h.2.1.trans (Only.of_kept hk), h.2.2⟩

/-- From here on: nothing but the row is turned. -/
theorem MemR.from {n₁ : Nat} {w1 W : World} {l : List (ByteArray × Int)} {v : Value} (h : MemR n₁ w1 l v W) : MemR n₁ W l v W := by
  refine ⟨h.1, Only.refl _ _, fun g e => .inl ?_⟩
  rcases h.1.2 with ⟨rfl, _⟩ | ⟨g', cap, cur, rfl, hb, hh, _⟩
  · simp [Value.ownBlock] at e
  · obtain rfl : g' = g := by simpa [Value.ownBlock] using e
    exact ⟨hb, _, _, hh⟩

/-- A row of another type is as it was. -/
theorem MemR.other {n₁ : Nat} {w1 W : World} {l : List (ByteArray × Int)} {v : Value} (h : MemR n₁ w1 l v W) {base k n : Nat} {e : TypeId} {u : Value} {xs : List Value} (he : e ≠ 169) (hr : w1.ownsRow base e k u n xs) : W.ownsRow base e k u n xs := by
  refine ⟨hr.1, ?_⟩
  rcases hr.2 with hn | ⟨g, cap, cur, rfl, hb, hgg, rest⟩
  · exact .inl hn
  · refine .inr ⟨g, cap, cur, rfl, hb, h.2.1.same hgg ?_, rest⟩
    rintro (⟨_, cs, fr, hc⟩ | hl)
    · rw [hgg] at hc
      injection hc with hc
      injection hc with _ h2
      exact he h2
    · have := (Array.getElem?_eq_some_iff.1 hgg).1
      omega

theorem MemR.kept {n₁ : Nat} {w w1 W : World} {l : List (ByteArray × Int)} {v : Value} (h : MemR n₁ w1 l v W) (hk : Kept w w1) (hn : w.heap.size ≤ n₁) : Kept w W :=
  hk.onlyS h.2.1 fun k e => by
    have := hk.size
    rcases e with ⟨e, _⟩ | e <;> omega

theorem MemR.start (n₁ : Nat) (w1 : World) : MemR n₁ w1 [] (.slice none 0 0) w1 := ⟨World.ownsRow_nil _ _ _ _, Only.refl _ _, fun g e => by simp [Value.ownBlock] at e⟩

/-- The members of some fields, and of some methods. -/
def fMem (l : List Tab.V) : List (ByteArray × Int) := l.map fun x => (x.name, (-1 : Int))
def sMem (l : List (Tab.M × Value)) : List (ByteArray × Int) := l.map fun x => (x.1.name, (x.1.params.length : Int))

theorem var_cells {w : World} {base g n c : Nat} {l : List Tab.V} (h : w.ownsRow base 50 2 (.slice (some ⟨g, 0, none⟩) n c) l.length (l.flatMap vCells)) {j : Nat} {x : Tab.V} (hx : l[j]? = some x) : w.cell? ⟨g, j * 2, none⟩ = some (.string x.name) ∧ w.cell? ⟨g, j * 2 + 1, none⟩ = some (.string x.typ) := by
  have c0 := h.cells (g := g) rfl _ _ (flat_at vCells vCells_len l j 0 x hx (by omega))
  have c1 := h.cells (g := g) rfl _ _ (flat_at vCells vCells_len l j 1 x hx (by omega))
  rw [addr_plain] at c0 c1
  exact ⟨by simpa using c0, by simpa using c1⟩
theorem sig_cells {w : World} {base g n c : Nat} {l : List (Tab.M × Value)} (h : w.ownsRow base 53 3 (.slice (some ⟨g, 0, none⟩) n c) l.length (l.flatMap mCells)) {j : Nat} {x : Tab.M × Value} (hx : l[j]? = some x) : w.cell? ⟨g, j * 3, none⟩ = some (.string x.1.name) ∧ w.cell? ⟨g, j * 3 + 1, none⟩ = some x.2 ∧ w.cell? ⟨g, j * 3 + 2, none⟩ = some (.string x.1.res) := by
  have c0 := h.cells (g := g) rfl _ _ (flat_at mCells mCells_len l j 0 x hx (by omega))
  have c1 := h.cells (g := g) rfl _ _ (flat_at mCells mCells_len l j 1 x hx (by omega))
  have c2 := h.cells (g := g) rfl _ _ (flat_at mCells mCells_len l j 2 x hx (by omega))
  rw [addr_plain] at c0 c1 c2
  exact ⟨by simpa using c0, by simpa using c1, by simpa using c2⟩

end Go.Proofs.YthooiofaicdhgaaGreatDoor
