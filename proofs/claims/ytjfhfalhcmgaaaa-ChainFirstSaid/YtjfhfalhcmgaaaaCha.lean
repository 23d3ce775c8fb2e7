/- What the statements by numbers are told. -/
import Derived.Test.YtjfhfalhcmgaaaaChz
import Derived.Test.YtjfhfalhcmgaaaaKtt
set_option linter.unusedSimpArgs false
set_option linter.unusedVariables false
set_option maxRecDepth 100000
namespace Go.Proofs.Ytjfhfalhcmgaaaa
open Go.ChangeShapes Go.WideShapes Go.ChangeAt Go.RowKit

theorem ints_of {w : World} {a : Option Addr} {len cap : Nat} {z : List Int} (h : (a = none ∧ len = 0 ∧ cap = 0 ∧ z = []) ∨ ∃ x, a = some x ∧ len ≤ cap ∧ cap ≤ maxLen ∧ z.length = cap ∧ (∀ i, i < z.length → w.cell? (x.add i) = some (.int .i64 (z.getD i 0))) ∧ ∀ n ∈ z, (Lit.int .i64 n).wf = true) :
    ∃ ns : List Int, ns.length = len ∧ IntsAt w (.slice a ns.length cap) ns := by
  rcases h with ⟨rfl, rfl, rfl, rfl⟩ | ⟨x, rfl, h1, h2, h3, h4, h5⟩
  · exact ⟨[], rfl, Row.nil⟩
  · have hl : (z.take len).length = len := by rw [List.length_take]; omega
    refine ⟨z.take len, hl, some x, cap, rfl, by omega, h2, fun i y hy => ?_⟩
    have hi : i < len := by have := (List.getElem?_eq_some_iff.1 hy).1; omega
    rw [List.getElem?_take, if_pos hi] at hy
    have hz : i < z.length := by omega
    have hc := h4 i hz
    have hb := bounds_i64 (h5 _ (List.mem_of_getElem? hy))
    rw [show z.getD i 0 = y by rw [List.getD_eq_getElem?_getD, hy]; rfl] at hc
    obtain ⟨b, o, sp⟩ := x
    cases sp with
    | none =>
      refine ⟨b, o, rfl, ?_, hb.1, hb.2⟩
      rw [addr_plainL] at hc
      rw [Nat.mul_one]
      exact hc
    | some s =>
      exfalso
      have h0 := World.cell?_spot (h4 0 (by omega))
      unfold Addr.add at h0
      cases h0

theorem ownL_lys {w : World} {l : List Ly} {e : Ending} {w' : World} (h : OwnL w l e w') (hz : ∀ x ∈ l, x.cls.size ≤ maxLen) : ∃ a c, e = .returned (.slice a l.length c) ∧ LysAt w' (.slice a l.length c) l ∧ Kept w w' := by
  obtain ⟨⟨a, c, e, h⟩, k⟩ := h
  exact ⟨a, c, e, owns_lys h hz, k⟩
theorem made_fine (ns : List Int) : ∀ x ∈ madeV ns, x.cls.size ≤ maxLen := fun x hx => by
  obtain ⟨j, _, e⟩ := made_mem hx
  rw [e]; exact clsV_small j

theorem behV_norm (a b : Ltr) (l : List Ly) : behV a b (Chn.norm ky l) = behV a b l := by unfold behV; rw [Chn.beh_norm]
theorem rev_norm (l : List Ly) : (Chn.norm ky l).reverse = Chn.norm ky l.reverse := (Chn.norm_rev ky l).symm

end Go.Proofs.Ytjfhfalhcmgaaaa
