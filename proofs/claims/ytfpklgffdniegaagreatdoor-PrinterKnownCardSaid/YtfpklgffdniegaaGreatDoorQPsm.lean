/- The parser in memory: its block, the tokens ahead, the map of ways and the levels; a node's kids as a row of one's own. -/
import Derived.Test.YtfpklgffdniegaaGreatDoorQw3
import Derived.Test.YtfpklgffdniegaaGreatDoorQTkr
import Derived.Test.YtfpklgffdniegaaGreatDoorQMpl
import Derived.Test.YtfpklgffdniegaaGreatDoorQHlt
set_option linter.unusedSimpArgs false
set_option linter.unusedVariables false
set_option maxRecDepth 100000
namespace Go.Proofs.YtfpklgffdniegaaGreatDoor
open Go.ChangeShapes Go.WideShapes Go.ChangeAt Go.RowKit
-- open
theorem slice_of_owns0 {w : World} {base k : Nat} {e : TypeId} {v : Value} {n : Nat} {xs : List Value} (h : w.ownsRow base e k v n xs) : ∃ a c, v = .slice a n c := by
 rcases h.2 with ⟨rfl, rfl⟩ | ⟨g, cap, cur, rfl, _⟩
 ·exact ⟨none, 0, rfl⟩
 ·exact ⟨_, _, rfl⟩
theorem owns_only0 {S : Nat → Prop} {w w' : World} {base k : Nat} {e : TypeId} {v : Value} {n : Nat} {xs : List Value} (h : w.ownsRow base e k v n xs) (hk : Only S w w') (hs : ∀ g, v.ownBlock = some g → ¬ S g) : w'.ownsRow base e k v n xs := by
 refine ⟨h.1, h.2.imp id ?_⟩
 rintro ⟨g, cap, cur, e1, h1, h2, h3⟩
 exact ⟨g, cap, cur, e1, h1, (hk.block g (Array.getElem?_eq_some_iff.1 h2).1 (hs g (by rw [e1]; rfl))).trans h2, h3⟩
theorem owns_block0 {w : World} {base : Nat} {e : TypeId} {size : Nat} {v : Value} {n : Nat} {xs : List Value} (h : w.ownsRow base e size v n xs) {g : Nat} (hg : v.ownBlock = some g) : base ≤ g := by
 rcases h.2 with ⟨rfl, _⟩ | ⟨g', cap, cur, rfl, hb, _⟩
 ·cases hg
 ·obtain rfl : g' = g := Option.some.inj hg
  exact hb
namespace Ps
end Ps
abbrev nT : TypeId := 24
section
-- variable
end
theorem ndC_len (p : Nd × Value) : (ndC p.1 p.2).length = 6 := rfl
section
variable {base : Nat} {w w' : World} {v : Value} {ks : List (Nd × Value)}
end
def put6n (W : World) (g : Nat) (x : Nd) (v : Value) : World := (((((W.setCell ⟨g, 0, none⟩ (.int .i64 x.kind)).setCell ⟨g, 1, none⟩ (.string x.text)).setCell ⟨g, 2, none⟩ (.string x.typ)).setCell ⟨g, 3, none⟩ (.string x.frm)).setCell ⟨g, 4, none⟩ (.int .i64 x.n)).setCell ⟨g, 5, none⟩ v
theorem put6n_blk {W : World} {g : Nat} {a b c d e h : Value} (hb : Blk W g nT #[a, b, c, d, e, h]) (x : Nd) (v : Value) : Blk (put6n W g x v) g nT (ndC x v).toArray := by
 have := (((((hb.put 0 (.int .i64 x.kind)).put 1 (.string x.text)).put 2 (.string x.typ)).put 3 (.string x.frm)).put 4 (.int .i64 x.n)).put 5 v
 simpa [put6n, ndC] using this
theorem put6n_only (W : World) (g : Nat) (x : Nd) (v : Value) : Only (· = g) W (put6n W g x v) := ((((((Only.refl _ W).put 0 _).put 1 _).put 2 _).put 3 _).put 4 _).put 5 _
theorem nd_results {fn : Func} {p : Tmp} (h : fn.results = #[.cell p 24]) (tmps : Array Value) (W : World) {g : Nat} {x : Nd} {v : Value}
  (hp : tmps.getD p undef = .pointer (some ⟨g, 0, none⟩)) (hg : Blk W g nT (ndC x v).toArray) : (results fn tmps).run Tryz.prog W = .ok (ndV x v) W :=
 results_cell_row (P := Tryz.prog) h tmps W g 24 (ndC x v).toArray (0, 0) _ hp hg Tryz.underlying24 (by rfl) (by kernel_rfl)
theorem nd_ok1 (k : Int) (t y : ByteArray) (n : Int) (ks : List Nd) (hk : 0 ≤ k ∧ k ≤ 40) (ht : t.size ≤ maxLen) (hy : y.size ≤ maxLen) (hn : -9223372036854775808 ≤ n ∧ n ≤ 9223372036854775807) : (Ps.nd k t y n ks).ok1 := ⟨⟨by show _ ≤ k; omega, by show k ≤ _; omega⟩, hn, ht, hy, Nat.zero_le _⟩
theorem e0_size : Ps.e0.size ≤ maxLen := Nat.zero_le _
section
variable {base : Nat} {w w' : World} {v : Value} {ks : List (Nd × Value)}
end
theorem nd_six {W : World} {g : Nat} {a b c d e f : Value} (h : Blk W g nT #[a, b, c, d, e, f]) : (W.cell? ⟨g, 0, none⟩ = some a ∧ W.cell? ⟨g, 1, none⟩ = some b ∧ W.cell? ⟨g, 2, none⟩ = some c ∧ W.cell? ⟨g, 3, none⟩ = some d ∧ W.cell? ⟨g, 4, none⟩ = some e ∧ W.cell? ⟨g, 5, none⟩ = some f) ∧
  (W.frozen? ⟨g, 0, none⟩ = false ∧ W.frozen? ⟨g, 1, none⟩ = false ∧ W.frozen? ⟨g, 2, none⟩ = false ∧ W.frozen? ⟨g, 3, none⟩ = false ∧ W.frozen? ⟨g, 4, none⟩ = false ∧ W.frozen? ⟨g, 5, none⟩ = false) :=
 ⟨⟨h.cell 0, h.cell 1, h.cell 2, h.cell 3, h.cell 4, h.cell 5⟩, h.frozen 0, h.frozen 1, h.frozen 2, h.frozen 3, h.frozen 4, h.frozen 5⟩
abbrev pzN : Array Value := #[.int .i64 0, .string ⟨#[]⟩, .string ⟨#[]⟩, .string ⟨#[]⟩, .int .i64 0, .slice none 0 0]
end Go.Proofs.YtfpklgffdniegaaGreatDoor
