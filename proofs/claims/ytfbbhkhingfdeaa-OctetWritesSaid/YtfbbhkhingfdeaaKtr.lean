/- What an argument reads as, behind a call that has turned nothing that was there; and a slice of bytes that came in. -/
import Derived.Test.YtfbbhkhingfdeaaHlp
import Derived.Carry
import Derived.OpenShut
set_option linter.unusedSimpArgs false
set_option linter.unusedVariables false
namespace Go.Proofs.Ytfbbhkhingfdeaa
open Go.ChangeShapes Go.WideShapes Go.ChangeAt Go.RowKit

theorem Kept.same {W w' : World} (h : Kept W w') {p : MemPlace} (hp : p.block < W.heap.size) : W.sameAt w' p := by
  cases p with
  | cell b o => exact World.cell?_of_block (w := W) (h.block b hp)
  | map b => exact h.block b hp

theorem Kept.trod {H : Type} {enc : TypeId × Value → H} {P : Program} {t : TypeId} (hl : laidOutB P = true) (hr : P.readableRec t = true) (hrow : t < P.types.size) {W W' : World} {v : Value} {d : DataW H} {ps : List MemPlace}
    (h : DataW.Trod enc P W 0 (fun _ => true) true t v d ps) (hb : Kept W W') (hlt : ∀ x ∈ ps, x.block < W.heap.size) :
    DataW.Trod enc P W' 0 (fun b => decide (b < W.heap.size)) true t v d ps :=
  WideElems.Trod_stays hl hr hrow h (fun x hx => hb.same (hlt x hx)) (fun x hx => by simpa using hlt x hx)

theorem Kept.cellA {w w' : World} (h : Kept w w') {a : Addr} {v : Value} (hc : w.cell? a = some v) : w'.cell? a = some v :=
  (World.cell?_of_block (h.block a.block (World.block_lt_of_cell? w a hc))).trans hc

/-- A slice of bytes that came in: however much of it is taken. -/
def Arg (w : World) (a : Option Addr) (cap : Nat) (bs : List UInt8) : Prop := bs.length ≤ cap ∧ (a = none → bs = [] ∧ cap = 0) ∧ ∀ m, m ≤ bs.length → (a ≠ none) → Str w (.slice a m cap) (bs.take m)

def toB (zs : List Int) : List UInt8 := zs.map fun z => UInt8.ofNat z.toNat

theorem arg_row {w : World} {x : Addr} {len cap : Nat} {zs : List Int} (hl : len ≤ cap) (hz : zs.length = cap) (hc : ∀ i, i < zs.length → w.cell? (x.add i) = some (.int .u8 (zs.getD i 0))) (hw : ∀ n ∈ zs, (Lit.int .u8 n).wf = true) : Arg w (some x) cap (toB (zs.take len)) ∧ (toB (zs.take len)).length = len := by
  have hlen : (toB (zs.take len)).length = len := by unfold toB; rw [List.length_map, List.length_take]; omega
  refine ⟨⟨by omega, (fun h => by cases h), fun m hm _ w' k => ?_⟩, hlen⟩
  have hm' : ((toB (zs.take len)).take m).length = m := by rw [List.length_take]; omega
  have hr := run_convert_bytes_back (P := Try.prog) w' 36 9 5 x cap ((toB (zs.take len)).take m) Try.underlying36 (by kernel_rfl) Try.underlying9 (fun j hj => ?_)
  · rw [hm'] at hr
    exact hr
  · have hj' : j < zs.length := by omega
    rw [k.cellA (hc j hj')]
    have e1 : ((toB (zs.take len)).take m)[j] = UInt8.ofNat (zs[j]'hj').toNat := by
      unfold toB
      simp
    have e2 : zs.getD j 0 = zs[j]'hj' := by simp [List.getD, List.getElem?_eq_getElem hj']
    rw [e1, e2]
    have hb := bounds_u8 (hw _ (List.getElem_mem hj'))
    rw [Oct.ofNat_toNat (by omega)]
    congr 2
    omega
end Go.Proofs.Ytfbbhkhingfdeaa
