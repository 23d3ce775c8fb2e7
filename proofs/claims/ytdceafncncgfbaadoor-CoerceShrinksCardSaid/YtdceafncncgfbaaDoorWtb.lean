/- The tables of words, told of the laid variables (out of Tfr, for a seat without tables of classes). -/
import Derived.Test.YtdceafncncgfbaaDoorKey
import Derived.Lib.LaidTab
import Derived.Lib.LaidU8
import Derived.ChangeSame
import Derived.Deep.Slices
import Derived.Deep.Fields
import Derived.ProofKit
import Derived.OpenShut
import Derived.ShutString
import Derived.Carry
set_option linter.unusedSimpArgs false
set_option linter.unusedVariables false
set_option maxRecDepth 100000
namespace Go.Proofs.YtdceafncncgfbaaDoor
open Go.ChangeShapes Go.WideShapes Go.ChangeAt Go.RowKit Go.Lib

theorem cell_two {x : List Value} {w : World} {fuel : Nat} {b : List UInt8} {n : Int} {q : List MemPlace}
    (h : DataW.trod (fun _ => ()) Tryd.prog w 0 (fun _ => true) false fuel 131 x = some (.agg [.lit (.string b), .lit (.int .i64 n)], q)) : x = [.string ⟨b.toArray⟩, .int .i64 n] := by
  obtain ⟨y0, y1, m, he, hl, h0, h1⟩ := trod_struct2 Tryd.underlying131 h
  rw [show Tryd.prog.cellsOf 131 = 2 by kernel_rfl] at hl
  obtain ⟨s, c0, rfl, _⟩ := DataW.trod_string Tryd.underlying9 h0
  obtain ⟨z, c1, rfl, _⟩ := DataW.trod_int Tryd.underlying3 h1
  have e1 : s.data.toList = b ∧ z = n := by
    have := congrArg Prod.fst he
    simp at this
    exact ⟨this.1.symm, this.2.symm⟩
  obtain ⟨rfl, rfl⟩ := e1
  match x, hl with
  | [a0, a1], _ =>
    have k1 : Tryd.prog.cellsOf 9 = 1 := by kernel_rfl
    have k2 : Tryd.prog.cellsOf 3 = 1 := by kernel_rfl
    rw [k1] at c0
    rw [k2] at c1
    simp at c0 c1
    rw [c0, c1]

def basesD : DataW Unit := .agg (Wrd.bs.zipIdx.map fun x => .agg [.lit (.string x.1.data.toList), .lit (.int .i64 (x.2 + 1))])

theorem bases_cells {cs : List Value} {w : World} {fuel : Nat} {q : List MemPlace}
    (h : DataW.trod (fun _ => ()) Tryd.prog w 0 (fun _ => true) false fuel 132 cs = some (basesD, q)) : cs = bcs.toList := by
  have hlen : cs.length = 10 := by
    cases fuel with
    | zero => simp [DataW.trod] at h
    | succ n =>
      unfold DataW.trod at h
      rw [Tryd.underlying132] at h
      simp only at h
      split at h
      · rename_i hl
        rw [hl]
        kernel_rfl
      · cases h
  have kc : Tryd.prog.cellsOf 131 = 2 := by kernel_rfl
  have E : ∀ (i : Nat) (b : List UInt8) (n : Int), i < 5 → (Wrd.bs.zipIdx.map fun x => (DataW.agg [.lit (.string x.1.data.toList), .lit (.int .i64 (x.2 + 1))] : DataW Unit))[i]? = some (.agg [.lit (.string b), .lit (.int .i64 n)]) → (cs.drop (i * 2)).take 2 = [.string ⟨b.toArray⟩, .int .i64 n] := by
    intro i b n hi hd
    obtain ⟨f', d, q', h1, h2⟩ := array_elem Tryd.underlying132 h i hi
    rw [hd] at h1
    obtain rfl := Option.some.inj h1
    rw [kc] at h2
    exact cell_two h2
  have e0 := E 0 _ _ (by omega) rfl
  have e1 := E 1 _ _ (by omega) rfl
  have e2 := E 2 _ _ (by omega) rfl
  have e3 := E 3 _ _ (by omega) rfl
  have e4 := E 4 _ _ (by omega) rfl
  clear E h
  match cs, hlen with
  | [a0, a1, a2, a3, a4, a5, a6, a7, a8, a9], _ =>
    simp at e0 e1 e2 e3 e4
    rw [e0.1, e0.2, e1.1, e1.2, e2.1, e2.2, e3.1, e3.2, e4.1, e4.2]
    rfl

theorem heap_of_var {w : World} {name : String} {g : Nat} {cs : Array Value} (hg : Tryd.prog.globalNamed name = some g) (h : w.var? Tryd.prog name = some cs) : ∃ t fr, w.heap[g]? = some (.cells cs t fr) := by
  unfold World.var? at h
  rw [hg] at h
  simp only [Option.bind_some] at h
  split at h
  · rename_i c t fr e
    cases h
    exact ⟨t, fr, e⟩
  · cases h

theorem tb_of_bases {w : World} (h0 : VarReads Tryd.prog w "chaperon/words.bases" basesD) : Tb w := by
  refine ⟨?_, trivial⟩
  obtain ⟨g, t, cs, fuel, p, hg, hty, hvar, hd⟩ := h0
  obtain rfl := Option.some.inj ((show Tryd.prog.globalNamed "chaperon/words.bases" = some 0 by kernel_rfl).symm.trans hg)
  obtain rfl := Option.some.inj ((show (Tryd.prog.globals[0]?).map (·.type) = some 132 by kernel_rfl).symm.trans hty)
  have e := bases_cells hd
  obtain rfl : cs = bcs := Array.toList_inj.1 e
  exact heap_of_var hg hvar

end Go.Proofs.YtdceafncncgfbaaDoor
