/- From what a row lists to what the walks ask: the table of the kinds' words. -/
import Derived.Test.YthooiofaicdhgaaGreatDoorSst
import Derived.Test.YthooiofaicdhgaaGreatDoorTbl
set_option linter.unusedSimpArgs false
set_option linter.unusedVariables false
set_option maxRecDepth 100000
namespace Go.Proofs.YthooiofaicdhgaaGreatDoor
open Go.ChangeShapes Go.WideShapes Go.ChangeAt Go.RowKit Go.Lib

def kwL : List (List UInt8) := [[63], [99, 97, 115, 116], [103, 101, 116], [112, 117, 116], [99, 97, 108, 108], [111, 112]]
def kindsD : DataW Unit := .agg (kwL.map fun x => .lit (.string x))

theorem kinds_cells {cs : List Value} {w : World} {fuel : Nat} {q : List MemPlace}
    (h : DataW.trod (fun _ => ()) Tryz.prog w 0 (fun _ => true) false fuel 152 cs = some (kindsD, q)) : cs = kwcs.toList := by
  have hlen : cs.length = 6 := by
    cases fuel with
    | zero => simp [DataW.trod] at h
    | succ n =>
      unfold DataW.trod at h
      rw [Tryz.underlying152] at h
      simp only at h
      split at h
      · rename_i hl
        rw [hl]
        kernel_rfl
      · cases h
  have kc : Tryz.prog.cellsOf 9 = 1 := by kernel_rfl
  have E : ∀ (i : Nat) (b : List UInt8), i < 6 → (kwL.map fun x => (DataW.lit (.string x) : DataW Unit))[i]? = some (.lit (.string b)) → (cs.drop i).take 1 = [.string ⟨b.toArray⟩] := by
    intro i b hi hd
    obtain ⟨f', d, q', h1, h2⟩ := array_elem Tryz.underlying152 h i hi
    rw [hd] at h1
    obtain rfl := Option.some.inj h1
    rw [kc, Nat.mul_one] at h2
    obtain ⟨s, c0, e, _⟩ := DataW.trod_string Tryz.underlying9 h2
    rw [c0]
    have : s.data.toList = b := by
      have := congrArg Prod.fst e
      simp at this
      exact this.symm
    subst this
    rfl
  have e0 := E 0 _ (by omega) rfl
  have e1 := E 1 _ (by omega) rfl
  have e2 := E 2 _ (by omega) rfl
  have e3 := E 3 _ (by omega) rfl
  have e4 := E 4 _ (by omega) rfl
  have e5 := E 5 _ (by omega) rfl
  clear E h
  match cs, hlen with
  | [a0, a1, a2, a3, a4, a5], _ =>
    simp at e0 e1 e2 e3 e4 e5
    rw [e0, e1, e2, e3, e4, e5]
    rfl

theorem kw_of_reads {w : World} (h0 : VarReads Tryz.prog w "chaperon/sites.kindWords" kindsD) : Kw w := by
  obtain ⟨g, t, cs, fuel, p, hg, hty, hvar, hd⟩ := h0
  obtain rfl := Option.some.inj ((show Tryz.prog.globalNamed "chaperon/sites.kindWords" = some 0 by kernel_rfl).symm.trans hg)
  obtain rfl := Option.some.inj ((show (Tryz.prog.globals[0]?).map (·.type) = some 152 by kernel_rfl).symm.trans hty)
  have e := kinds_cells hd
  obtain rfl : cs = kwcs := Array.toList_inj.1 e
  exact heap_of_var hg hvar

end Go.Proofs.YthooiofaicdhgaaGreatDoor
