/- The contract of table.Members. -/
import Derived.Test.YthooiofaicdhgaaGreatDoorKFi2
import Derived.Test.YthooiofaicdhgaaGreatDoorKMts
set_option linter.unusedSimpArgs false
set_option linter.unusedVariables false
set_option maxRecDepth 100000
namespace Go.Proofs.YthooiofaicdhgaaGreatDoor
open Go.ChangeShapes Go.WideShapes Go.ChangeAt Go.RowKit Go.Shelf
theorem wpList_apk {P : Program} {ops : Array Oper} {rest : List Oper} {o : Oper} {a : Act} {Q : Exit → Act → World → Prop} {w : World} (hgd : o.guard = none) (s x : Operand) (t tx : TypeId)
  (ho : o.op = .call { callee := .builtin .append, args := #[s, x], argTypes := #[t, tx] }) (base k : Nat) (e : TypeId) (i : TypeInfo) (z : Value) (bytes : Nat) (ht : P.underlying t = some (.slice e)) (hi : P.info? e = some i) (hz : i.zero = some z)
  (hsize : i.size = k) (hby : i.bytes = bytes) (hzs : z.cells.size = k)
  {v vx : Value} {n m : Nat} {xs news : List Value} (hs : a.eval s = v) (hown : w.ownsRow base e k v n xs) (hx : a.eval x = vx) (hsrc : Src P k tx vx m news w)
  (h63 : n + m ≤ maxLen) (hbytes : (n + m) * bytes ≤ 140737488355328) (hbase : base ≤ w.heap.size)
  (hK : ∀ v' w', w'.ownsRow base e k v' (n + m) (xs ++ news) → w.grownBy w' v.ownBlock → (v'.ownBlock = v.ownBlock ∨ v'.ownBlock = some w.heap.size) → wpList P ops Q rest (a.put o.dst v') w') : wpList P ops Q (o :: rest) a w :=
 wpList_plain hgd fun K' hk => by
  obtain ⟨v', w', hr, h2, h3, h4, h5⟩ := run_apk (P := P) w base k t tx o.type e i z bytes ht hi hz hsize hby hzs v n xs hown vx m news hsrc h63 hbytes hbase
  unfold Oper.wp execOp
  simp only [ho, resolve, invoke, builtin, Sem.run_bind, Sem.run_pure, Result.andThen_ok, List.map_toArray, List.map_cons, List.map_nil, hs, hx, hr]
  exact hk _ _ (hK v' w' h2 h3 h5)
theorem var_cells {w : World} {base g n c : Nat} {l : List Tab.V} (h : w.ownsRow base 50 2 (.slice (some ⟨g, 0, none⟩) n c) l.length (l.flatMap vCells)) {j : Nat} {x : Tab.V} (hx : l[j]? = some x) : w.cell? ⟨g, j * 2, none⟩ = some (.string x.name) ∧ w.cell? ⟨g, j * 2 + 1, none⟩ = some (.string x.typ) := by
 have c0 := h.cells (g := g) rfl _ _ (flat_at vCells vCells_len l j 0 x hx (by omega))
 have c1 := h.cells (g := g) rfl _ _ (flat_at vCells vCells_len l j 1 x hx (by omega))
 rw [addr_plain] at c0 c1
 exact ⟨by simpa using c0, by simpa using c1⟩
theorem sig_cells {w : World} {base g n c : Nat} {l : List (Tab.M × Value)} (h : w.ownsRow base 53 3 (.slice (some ⟨g, 0, none⟩) n c) l.length (l.flatMap mCells)) {j : Nat} {x : Tab.M × Value} (hx : l[j]? = some x) : w.cell? ⟨g, j * 3, none⟩ = some (.string x.1.name) ∧ w.cell? ⟨g, j * 3 + 1, none⟩ = some x.2 ∧ w.cell? ⟨g, j * 3 + 2, none⟩ = some (.string x.1.res) := by
 have c0 := h.cells (g := g) rfl _ _ (flat_at mCells mCells_len l j 0 x hx (by omega))
 have c1 := h.cells (g := g) rfl _ _ (flat_at mCells mCells_len l j 1 x hx (by omega))
 have c2 := h.cells (g := g) rfl _ _ (flat_at mCells mCells_len l j 2 x hx (by omega))
 rw [addr_plain] at c0 c1 c2
 exact ⟨by simpa using c0, by simpa using c1, by simpa using c2⟩
end Go.Proofs.YthooiofaicdhgaaGreatDoor
