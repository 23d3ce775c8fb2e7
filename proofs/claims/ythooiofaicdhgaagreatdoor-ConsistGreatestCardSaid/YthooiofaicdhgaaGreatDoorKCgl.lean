/- What ConsistGreatest's helpers tell: closed. -/
import Derived.Test.YthooiofaicdhgaaGreatDoorKCgr
import Derived.StillTailTactics
import Derived.StillTactics
import Derived.Deep.RegionHeld3
set_option linter.unusedSimpArgs false
set_option linter.unusedVariables false
set_option maxRecDepth 100000
namespace Go.Proofs.YthooiofaicdhgaaGreatDoor.Tab
/-- A class' method, or nothing. -/
def mth (t : List C) (s nm : ByteArray) : M := ((method t s nm).map Prod.fst).getD ⟨⟨#[]⟩, [], ⟨#[]⟩⟩
def clF (t : List C) (L : List (Nat × Nat)) (s : ByteArray) (f : V) : Bool := within t L ((field t s f.name).getD ⟨#[]⟩) f.typ && within t L f.typ ((field t s f.name).getD ⟨#[]⟩)
def clP (t : List C) (L : List (Nat × Nat)) (p : V × V) : Bool := within t L p.2.typ p.1.typ
def clM (t : List C) (L : List (Nat × Nat)) (s : ByteArray) (m : M) : Bool := within t L (mth t s m.name).res m.res && decide ((mth t s m.name).params.length = m.params.length) && (List.zip (mth t s m.name).params m.params).all (clP t L)
def closed (t : List C) (L : List (Nat × Nat)) (i k : Nat) : Bool := has t (nth t i).name (nth t k).name && (fields t (nth t k).name).all (clF t L (nth t i).name) && (methods t (nth t k).name).all (clM t L (nth t i).name)
end Go.Proofs.YthooiofaicdhgaaGreatDoor.Tab
namespace Go.Proofs.YthooiofaicdhgaaGreatDoor
open Go.ChangeShapes Go.WideShapes Go.ChangeAt Go.RowKit
def PrmAt (w : World) (pa : Option Addr) (l : List Tab.V) : Prop := ∀ k y, l[k]? = some y → ∃ g, pa = some ⟨g, 0, none⟩ ∧ w.cell? ⟨g, k * 2 + 1, none⟩ = some (.string y.typ)
theorem PrmAt.kept {w w' : World} {pa : Option Addr} {l : List Tab.V} (h : PrmAt w pa l) (k : Kept w w') : PrmAt w' pa l := fun i y hy => by
 obtain ⟨g, e, c⟩ := h i y hy
 exact ⟨g, e, k.cell c⟩
theorem prm_of {w : World} {base c : Nat} {pa : Option Addr} {n : Nat} {l : List Tab.V} (h : w.ownsRow base 50 2 (.slice pa n c) l.length (l.flatMap vCells)) : PrmAt w pa l := fun k y hy => by
 have hl := (List.getElem?_eq_some_iff.1 hy).1
 obtain ⟨a', c', e⟩ := owns_slice_n h
 injection e with e1 e2 e3
 subst e1 e2 e3
 obtain ⟨g, rfl, _⟩ := row_cells h (by omega)
 exact ⟨g, rfl, (var_cells h hy).2⟩
theorem row_len {w : World} {base k n c : Nat} {e : TypeId} {a : Option Addr} {xs : List Value} (h : w.ownsRow base e k (.slice a n c) n xs) : n ≤ 9223372036854775807 := by
 rcases h.2 with ⟨h0, h1⟩ | ⟨g, cap, cur, e, hg1, hg2, hg3, hg4, _⟩
 ·omega
 ·unfold maxLen at hg4; omega
/-- What Method answers, in one form. -/
def MethAny (x : Tab.M) (w : World) (e : Ending) (w' : World) : Prop :=
 ∃ nm own bb pa pc, e = .returned (.tuple #[.agg #[.string nm, .slice pa x.params.length pc, .string x.res], .string own, .bool bb]) ∧ PrmAt w' pa x.params ∧ x.params.length ≤ 9223372036854775807 ∧ Kept w w'
theorem meth_any {t : List Tab.C} {s nm : ByteArray} {w : World} {e : Ending} {w' : World} (h : MethodPost t s nm w e w') : MethAny (Tab.mth t s nm) w e w' := by
 obtain ⟨hk, ⟨h0, rfl⟩ | ⟨m, own, p, h0, rfl, hr⟩⟩ := h
 ·have e0 : Tab.mth t s nm = ⟨⟨#[]⟩, [], ⟨#[]⟩⟩ := by unfold Tab.mth; rw [h0]; rfl
  rw [e0]
  exact ⟨_, _, _, none, 0, rfl, fun k y hy => by simp at hy, by simp, hk⟩
 ·have e0 : Tab.mth t s nm = m := by unfold Tab.mth; rw [h0]; rfl
  rw [e0]
  obtain ⟨pa, pc, rfl⟩ := owns_slice_n hr
  exact ⟨_, _, _, pa, pc, rfl, prm_of hr, row_len hr, hk⟩
end Go.Proofs.YthooiofaicdhgaaGreatDoor
