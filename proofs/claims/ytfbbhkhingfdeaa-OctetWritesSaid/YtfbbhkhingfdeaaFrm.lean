/- A slice of items that came in, opened to its cells. -/
import Derived.Test.YtfbbhkhingfdeaaBck
import Derived.Deep.Slices
import Derived.Deep.Fields
import Derived.ChangeSame
import Derived.ProofKit
import Derived.OpenShut
import Derived.ShutString
set_option linter.unusedSimpArgs false
set_option linter.unusedVariables false
namespace Go.Proofs.Ytfbbhkhingfdeaa
open Go.ChangeShapes Go.WideShapes Go.ChangeAt Go.RowKit Go.Deep

section
variable {H : Type} {enc : TypeId × Value → H} {w : World} {base : Nat} {spare : Nat → Bool} {held : Bool}
theorem item_fields : ∃ fs : Array Field, Try.prog.underlying 33 = some (.struct fs) ∧ oneCellFields Try.prog fs = true ∧ fs.size = 3 ∧ (∃ f, fs[0]? = some f ∧ f.type = 3) ∧ (∃ f, fs[1]? = some f ∧ f.type = 3) ∧ (∃ f, fs[2]? = some f ∧ f.type = 9) := by
  refine ⟨_, Try.underlying33, ?_, rfl, ⟨_, rfl, rfl⟩, ⟨_, rfl, rfl⟩, ⟨_, rfl, rfl⟩⟩
  kernel_rfl

/-- The three cells of one item. -/
theorem open_item {fuel : Nat} {ad : Addr} {x : DataW H × List MemPlace} {cs : List Value} (hc : w.cells? base ad 3 = some cs) (h : DataW.trod enc Try.prog w base spare held fuel 33 cs = some x) :
    ∃ y : Itm, y.ok ∧ w.cell? (ad.add 0) = some (.int .i64 y.kind) ∧ w.cell? (ad.add 1) = some (.int .i64 y.num) ∧ w.cell? (ad.add 2) = some (.string y.txt) := by
  obtain ⟨fs, hs, hone, hsz, ⟨f0, e0, t0⟩, ⟨f1, e1, t1⟩, ⟨f2, e2, t2⟩⟩ := item_fields
  obtain ⟨ys, n', hn', hy, hlen, hyl, hf⟩ := DataW.trod_struct hs h
  obtain ⟨_, hcl, hat⟩ := World.cells?_some hc
  have hcl3 : cs.length = 3 := hcl
  match cs, hcl3 with
  | [v0, v1, v2], _ =>
    obtain ⟨o0, k0⟩ := hone_of hone 0 f0 e0
    obtain ⟨o1, k1⟩ := hone_of hone 1 f1 e1
    obtain ⟨o2, k2⟩ := hone_of hone 2 f2 e2
    have g0 := hf 0 f0 e0
    have g1 := hf 1 f1 e1
    have g2 := hf 2 f2 e2
    rw [hsz] at hyl
    match ys, hyl with
    | [y0, y1, y2], _ =>
      rw [o0, k0, t0] at g0
      rw [o1, k1, t1] at g1
      rw [o2, k2, t2] at g2
      have c0 := hat 0 (by decide)
      have c1 := hat 1 (by decide)
      have c2 := hat 2 (by decide)
      have g0' : DataW.trod enc Try.prog w base spare held n' 3 [v0] = some y0 := g0
      have g1' : DataW.trod enc Try.prog w base spare held n' 3 [v1] = some y1 := g1
      have g2' : DataW.trod enc Try.prog w base spare held n' 9 [v2] = some y2 := g2
      obtain ⟨m0, r0, _, w0⟩ := DataW.trod_int Try.underlying3 g0'
      obtain ⟨m1, r1, _, w1⟩ := DataW.trod_int Try.underlying3 g1'
      obtain ⟨s2, r2, _, w2⟩ := DataW.trod_string Try.underlying9 g2'
      injection r0 with r0
      injection r1 with r1
      injection r2 with r2
      subst r0 r1 r2
      exact ⟨⟨m0, m1, s2⟩, ⟨bounds_i64 w0, bounds_i64 w1, w2⟩, c0, c1, c2⟩

theorem open_items {fuel : Nat} {a : Option Addr} {n c : Nat} {x : DataW H × List MemPlace} (h : DataW.trod enc Try.prog w base spare held fuel 22 [.slice a n c] = some x) :
    ∃ l : List Itm, l.length = n ∧ n ≤ c ∧ c ≤ maxLen ∧ Has w a l := by
  rcases open_slice Try.underlying22 h with ⟨hcs, _⟩ | ⟨ad, len, cap, m, k, D, Pl, hcs, hb, hl, hm, hmm, hx, hi⟩
  · cases hcs
    exact ⟨[], rfl, Nat.le_refl _, Nat.zero_le _, fun h => absurd rfl h⟩
  · cases hcs
    have hC : Try.prog.cellsOf 33 = 3 := by kernel_rfl
    have each : ∀ i, i < n → ∃ y : Itm, y.ok ∧ w.cell? ((ad.add (i * 3)).add 0) = some (.int .i64 y.kind) ∧ w.cell? ((ad.add (i * 3)).add 1) = some (.int .i64 y.num) ∧ w.cell? ((ad.add (i * 3)).add 2) = some (.string y.txt) := fun i hin => by
      obtain ⟨cs', hc, ht'⟩ := hi i (by rw [hmm]; split <;> omega)
      rw [hC] at hc
      exact open_item hc ht'
    let g : Fin n → Itm := fun i => Classical.choose (each i.1 i.2)
    have gs : ∀ i : Fin n, (g i).ok ∧ w.cell? ((ad.add (i.1 * 3)).add 0) = some (.int .i64 (g i).kind) ∧ w.cell? ((ad.add (i.1 * 3)).add 1) = some (.int .i64 (g i).num) ∧ w.cell? ((ad.add (i.1 * 3)).add 2) = some (.string (g i).txt) := fun i => Classical.choose_spec (each i.1 i.2)
    refine ⟨List.ofFn g, List.length_ofFn, hl, hm, fun hne => ?_⟩
    have hn : 0 < n := by
      rcases Nat.eq_zero_or_pos n with h0 | h0
      · subst h0; exact absurd rfl hne
      · exact h0
    obtain ⟨b, off, spot⟩ := ad
    have hspot : spot = none := by simpa [Addr.add] using World.cell?_spot (gs ⟨0, hn⟩).2.1
    subst hspot
    refine ⟨b, off, rfl, fun i y hy => ?_⟩
    obtain ⟨hin, hyy⟩ := List.getElem?_eq_some_iff.1 hy
    have hin' : i < n := by simpa using hin
    have hyg : y = g ⟨i, hin'⟩ := by rw [← hyy]; simp
    rw [hyg]
    have := gs ⟨i, hin'⟩
    simp only [add_plain, Nat.add_zero] at this
    exact this
end
theorem back_long (a : Option Addr) (cap : Nat) (l : List Itm) (w : World) (hA : Has w a l) (hl : l.length ≤ cap) (hcm : cap ≤ maxLen) (hlong : longB l = true) :
    Calls Try.prog 6 #[.slice a l.length cap] w fun e w' => e = .returned (.bool true) ∧ Kept w w' := by
  have HLG := Lib.hid (fun w' (k : Kept w w') => long_c a l cap w' hl hcm (hA.kept k))
  rw [hlong] at HLG
  clear hA hlong
  go_enter Try.func6, Try.ntmps6
  go_wp2_with fail
  refine (known_c _).mono ?_
  rintro e wk ⟨rfl, kk⟩
  have HK := Lib.hid kk
  clear kk
  go_wp2_with fail
  refine (newW_c 1048576 _ (by decide) (by decide)).mono ?_
  rintro e w1 ⟨rfl, k1, hw1⟩
  have HK1 := Lib.hid (HK.out.trans k1)
  clear k1 hw1
  go_wp2_with fail
  refine (HLG.out _ HK1.out).mono ?_
  rintro e w2 ⟨rfl, rfl⟩
  go_wp2_with fail
  go_ret
  exact ⟨rfl, HK1.out⟩

theorem back_all (a : Option Addr) (cap : Nat) (l : List Itm) (w : World) (hA : Has w a l) (hl : l.length ≤ cap) (hcm : cap ≤ maxLen) :
    Calls Try.prog 6 #[.slice a l.length cap] w fun e w' => e = .returned (.bool true) ∧ Kept w w' := by
  cases h : longB l
  · exact back_c a cap l w hA hl hcm h
  · exact back_long a cap l w hA hl hcm h
end Go.Proofs.Ytfbbhkhingfdeaa
