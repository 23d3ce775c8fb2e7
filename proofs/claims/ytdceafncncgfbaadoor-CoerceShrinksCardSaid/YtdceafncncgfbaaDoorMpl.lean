/- Plain laws on a map that a literal fills, whatever its elements are: an entry more, and what is told of a key, with 'ok'. The elements are read as themselves. No program is named here. A map from texts, as a function: what a look-up tells, what a store makes of it. No program is named here. -/
import Derived.Test.YtdceafncncgfbaaDoorBlk
import Derived.Maps.OwnSet
import Derived.Maps.OwnIn
set_option linter.unusedSimpArgs false
set_option linter.unusedVariables false
namespace Go.Proofs.YtdceafncncgfbaaDoor
open Go.ChangeShapes Go.WideShapes Go.ChangeAt Go.RowKit
open Go.Maps (Keyed)

/-- An element reads as itself. -/
def selfElem : Value → Option (DataW Value × List MemPlace) := fun v => some (.held v, [])

theorem selfElem_inv {v x : Value} {ps : List MemPlace} (h : selfElem v = some (.held x, ps)) : v = x := by
  unfold selfElem at h; cases h; rfl

/-- 'm[k] = v' in a map's literal. -/
theorem wpList_insert_own {P : Program} (w : World) {ops : Array Oper} {rest : List Oper} {o : Oper} {a : Act} {Q : Exit → Act → World → Prop}
    (hg : o.guard = none) (m x v : Operand) (t : TypeId) (hop : o.op = Op.insert t m x v)
    (k e : TypeId) (K : Keyed P k) (ht : P.underlying t = some (.map k e)) (b n : Nat) (D : DataW Value)
    (hm : a.eval m = .map (some b)) (hown : w.ownsMap P k selfElem b n D) (hn : n < maxLen) (key val : Value) (kl : Lit) (hx : a.eval x = key) (hv : a.eval v = val) (hkey : keyOf P k key = some kl)
    (hK : ∀ w', w'.ownsMap P k selfElem b (n + 1) (D.put kl (.held val)) → w.grownBy w' (some b) → wpList P ops Q rest (a.put o.dst undef) w') :
    wpList P ops Q (o :: rest) a w := by
  refine wpList_plain hg fun K' hK' => ?_
  obtain ⟨w', hrun, r1, r2⟩ := hown.update K ht hn hkey (show selfElem val = some (.held val, []) from rfl)
  unfold Oper.wp
  simp [execOp, hop, hm, hx, hv, hrun, Result.andThen]
  exact hK' _ _ (hK w' r1 r2)

end Go.Proofs.YtdceafncncgfbaaDoor

namespace Go.Proofs.YtdceafncncgfbaaDoor
open Go.ChangeShapes Go.WideShapes Go.ChangeAt Go.RowKit
open Go.Maps (Keyed)

/-- Block b holds a map that tells f. -/
def MapF (P : Program) (k : TypeId) (b n : Nat) (f : ByteArray → Option Value) (W : World) : Prop :=
  ∃ D : DataW Value, W.ownsMap P k selfElem b n D ∧ Maps.IsMap D ∧ ∀ s, Maps.has D (.string s.data.toList) = (f s).isSome ∧ ∀ v, f s = some v → ∀ z, D.atKey (.string s.data.toList) z = .held v

section
variable {P : Program} {k e t : TypeId} {b n : Nat} {f : ByteArray → Option Value} {W : World}

theorem MapF.made (W : World) (P : Program) (k : TypeId) : MapF P k W.heap.size 0 (fun _ => none) (W.alloc (.map #[] 0)) :=
  ⟨.map [], World.ownsMap_made W P k selfElem, Maps.isMap_empty, fun s => ⟨rfl, fun v h => by cases h⟩⟩

theorem MapF.lt (h : MapF P k b n f W) : b < W.heap.size := by obtain ⟨D, h1, _⟩ := h; exact h1.lt
theorem MapF.mono (h : MapF P k b n f W) {m : Nat} (hm : n ≤ m) : MapF P k b m f W := by obtain ⟨D, h1, h2⟩ := h; exact ⟨D, h1.mono hm, h2⟩

theorem MapF.only {S : Nat → Prop} {W' : World} (h : MapF P k b n f W) (ho : Only S W W') (hs : ¬ S b) : MapF P k b n f W' := by
  obtain ⟨D, ⟨es, clock, hb, rest⟩, h2⟩ := h
  exact ⟨D, ⟨es, clock, (ho.block b (Array.getElem?_eq_some_iff.1 hb).1 hs).trans hb, rest⟩, h2⟩

theorem MapF.look (h : MapF P k b n f W) (K : Keyed P k) (ht : P.underlying t = some (.map k e)) {z : Value} (hz : (zeroValue e).run P W = .ok z W) (s : ByteArray) (hkey : keyOf P k (.string s) = some (.string s.data.toList)) :
    (Instr.lookup t (.map (some b)) (.string s) true).run P W = .ok (.tuple #[(f s).getD z, .bool (f s).isSome]) W := by
  obtain ⟨D, h1, h2, h3⟩ := h
  obtain ⟨v, ps, hr, hv⟩ := h1.look_ok K ht hz (zd := .held z) (zp := []) rfl hkey
  rw [hr, (h3 s).1]
  cases e : f s with
  | none =>
    rw [Maps.atKey_of_not_has (by rw [(h3 s).1, e]; rfl)] at hv
    rw [selfElem_inv hv]
    rfl
  | some x =>
    rw [(h3 s).2 x e] at hv
    rw [selfElem_inv hv]
    rfl

theorem str_ne {a b : ByteArray} (h : ¬ a = b) : (Lit.string a.data.toList) ≠ .string b.data.toList := by
  intro e
  injection e with e
  exact h (ByteArray.ext (Array.toList_inj.1 e))

theorem MapF.store (h : MapF P k b n f W) (K : Keyed P k) (ht : P.underlying t = some (.map k e)) (hn : n < maxLen) (s : ByteArray) (v : Value) (hkey : keyOf P k (.string s) = some (.string s.data.toList)) :
    ∃ W', (Instr.mapUpdate t (.map (some b)) (.string s) v).run P W = .ok () W' ∧ MapF P k b (n + 1) (fun x => if x = s then some v else f x) W' ∧ W.grownBy W' (some b) := by
  obtain ⟨D, h1, h2, h3⟩ := h
  obtain ⟨W', hr, ho, hg⟩ := h1.update K ht hn hkey (show selfElem v = some (.held v, []) from rfl)
  refine ⟨W', hr, ⟨_, ho, h2.put _ _, fun x => ?_⟩, hg⟩
  by_cases hx : x = s
  · subst hx
    refine ⟨by rw [Maps.has_put_same (k := Lit.string x.data.toList) h2 trivial]; simp, fun u hu z => ?_⟩
    rw [Maps.atKey_put_same (k := Lit.string x.data.toList) h2 trivial]
    simp at hu
    rw [hu]
  · refine ⟨by rw [Maps.has_put_other (str_ne hx)]; simp [hx, (h3 x).1], fun u hu z => ?_⟩
    rw [Maps.atKey_put_other (str_ne hx)]
    simp [hx] at hu
    exact (h3 x).2 u hu z
end
end Go.Proofs.YtdceafncncgfbaaDoor
