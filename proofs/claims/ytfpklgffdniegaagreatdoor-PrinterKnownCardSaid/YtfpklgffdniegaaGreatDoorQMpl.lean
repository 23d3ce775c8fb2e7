/- Plain laws on a map that a literal fills, whatever its elements are: an entry more, and what is told of a key, with 'ok'. The elements are read as themselves. No program is named here. A map from texts, as a function: what a look-up tells, what a store makes of it. No program is named here. -/
import Derived.Test.YtfpklgffdniegaaGreatDoorQw0
import Derived.Maps.OwnSet
import Derived.Maps.OwnIn
set_option linter.unusedSimpArgs false
set_option linter.unusedVariables false
namespace Go.Proofs.YtfpklgffdniegaaGreatDoor
open Go.ChangeShapes Go.WideShapes Go.ChangeAt Go.RowKit
open Go.Maps (Keyed)
/-- An element reads as itself. -/
def selfElem : Value → Option (DataW Value × List MemPlace) := fun v => some (.held v, [])
theorem selfElem_inv {v x : Value} {ps : List MemPlace} (h : selfElem v = some (.held x, ps)) : v = x := by
 unfold selfElem at h; cases h; rfl
/-- 'm[k] = v' in a map's literal. -/
theorem wpList_insert_own {P : Program} (w : World) {ops : Array Oper} {rest : List Oper} {o : Oper} {a : Act} {Q : Exit → Act → World → Prop}
  (hg : o.guard = none) (m x v : Operand) (t : TypeId) (hop : o.op = Op.insert t m x v)
  (k e : TypeId) (K : Keyed P k) (ht : P.underlying t = some (.map k e)) (b n : Nat) (D : DataW Value)
  (hm : a.eval m = .map (some b)) (hown : w.ownsMap P k selfElem b n D) (hn : n < maxLen) (key val : Value) (kl : Lit) (hx : a.eval x = key) (hv : a.eval v = val) (hkey : keyOf P k key = some kl)
  (hK : ∀ w', w'.ownsMap P k selfElem b (n + 1) (D.put kl (.held val)) → w.grownBy w' (some b) → wpList P ops Q rest (a.put o.dst undef) w') :
  wpList P ops Q (o :: rest) a w := by
 refine wpList_plain hg fun K' hK' => ?_
 obtain ⟨w', hrun, r1, r2⟩ := hown.update K ht hn hkey (show selfElem val = some (.held val, []) from rfl)
 unfold Oper.wp
 simp [execOp, hop, hm, hx, hv, hrun, Result.andThen]
 exact hK' _ _ (hK w' r1 r2)
end Go.Proofs.YtfpklgffdniegaaGreatDoor
namespace Go.Proofs.YtfpklgffdniegaaGreatDoor
open Go.ChangeShapes Go.WideShapes Go.ChangeAt Go.RowKit
open Go.Maps (Keyed)
section
variable {P : Program} {k e t : TypeId} {b n : Nat} {f : ByteArray → Option Value} {W : World}
end
end Go.Proofs.YtfpklgffdniegaaGreatDoor
