/- What the statements of layer 11 are told: bytes that came in. -/
import Derived.Test.YtfkmnpgpfmkjaaaGreatDoorQy12
import Derived.Test.YtfkmnpgpfmkjaaaGreatDoorQKtt
import Derived.OpenShut
set_option linter.unusedSimpArgs false
set_option linter.unusedVariables false
set_option maxRecDepth 100000
namespace Go.Proofs.YtfkmnpgpfmkjaaaGreatDoor
open Go.ChangeShapes Go.WideShapes Go.ChangeAt Go.RowKit
theorem addr_plainI (b o j : Nat) : (⟨b, o, none⟩ : Addr).add j = ⟨b, o + j, none⟩ := by
 unfold Addr.add
 split
 ·rename_i h; rw [h]; rfl
 ·rfl
theorem src_of {w : World} {a : Option Addr} {len cap : Nat} {z : List Int} (h : (a = none ∧ len = 0 ∧ cap = 0 ∧ z = []) ∨ ∃ x, a = some x ∧ len ≤ cap ∧ cap ≤ maxLen ∧ z.length = cap ∧ (∀ i, i < z.length → w.cell? (x.add i) = some (.int .u8 (z.getD i 0))) ∧ ∀ n ∈ z, (Lit.int .u8 n).wf = true) :
  ∃ l : List UInt8, l.length = len ∧ SrcAt w (.slice a l.length cap) l := by
 rcases h with ⟨rfl, rfl, rfl, rfl⟩ | ⟨x, rfl, h1, h2, h3, h4, h5⟩
 ·exact ⟨[], rfl, Row.nil⟩
 ·have hl : ((z.take len).map fun n => UInt8.ofNat n.toNat).length = len := by rw [List.length_map, List.length_take]; omega
  refine ⟨(z.take len).map fun n => UInt8.ofNat n.toNat, hl, some x, cap, rfl, by omega, h2, fun i y hy => ?_⟩
  have hi : i < len := by have := (List.getElem?_eq_some_iff.1 hy).1; omega
  rw [List.getElem?_map, List.getElem?_take, if_pos hi] at hy
  have hz : i < z.length := by omega
  have hc := h4 i hz
  have hb := bounds_u8 (h5 _ (List.getElem_mem hz))
  rw [List.getElem?_eq_getElem hz] at hy
  obtain rfl : UInt8.ofNat z[i].toNat = y := by simpa using hy
  rw [show z.getD i 0 = z[i] by rw [List.getD_eq_getElem?_getD, List.getElem?_eq_getElem hz]; rfl] at hc
  have he : ((UInt8.ofNat z[i].toNat).toNat : Int) = z[i] := by
   rw [UInt8.toNat_ofNat']
   omega
  obtain ⟨b, o, sp⟩ := x
  cases sp with
  | none =>
   refine ⟨b, o, rfl, ?_⟩
   unfold ByteR
   rw [addr_plainI] at hc
   rw [Nat.mul_one, he]
   exact hc
  | some s =>
   exfalso
   have h0 := World.cell?_spot (h4 0 (by omega))
   unfold Addr.add at h0
   cases h0
end Go.Proofs.YtfkmnpgpfmkjaaaGreatDoor
