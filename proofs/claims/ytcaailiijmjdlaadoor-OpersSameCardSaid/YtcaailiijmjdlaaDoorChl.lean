/- A slice of layers, and a layer, that came in. -/
import Derived.Test.YtcaailiijmjdlaaDoorLyr
import Derived.Test.YtcaailiijmjdlaaDoorKtt
import Derived.OpenShut
import Derived.Carry
import Derived.ShutString
import Derived.ProofKit
import Derived.Deep.Fields
import Derived.Deep.Slices
import Derived.ChangeSame
import Derived.Lib.LaidTab
set_option linter.unusedSimpArgs false
set_option linter.unusedVariables false
set_option maxRecDepth 100000
namespace Go.Proofs.YtcaailiijmjdlaaDoor
open Go.ChangeShapes Go.WideShapes Go.ChangeAt Go.RowKit Go.Deep

theorem row_of_eachL {α : Type} {k : Nat} {R : World → Nat → Nat → α → Prop} {w : World} {ad : Addr} {n c : Nat} (hl : n ≤ c) (hm : c ≤ maxLen)
    (each : ∀ i, i < n → ∃ y : α, ∃ b o, ad = ⟨b, o, none⟩ ∧ R w b (o + i * k) y) : ∃ l : List α, l.length = n ∧ Row k R w (.slice (some ad) n c) l := by
  let g : Fin n → α := fun i => Classical.choose (each i.1 i.2)
  have gs : ∀ i : Fin n, ∃ b o, ad = ⟨b, o, none⟩ ∧ R w b (o + i.1 * k) (g i) := fun i => Classical.choose_spec (each i.1 i.2)
  have hlen : (List.ofFn g).length = n := List.length_ofFn
  refine ⟨List.ofFn g, hlen, some ad, c, by rw [hlen], by rw [hlen]; exact hl, hm, fun i y hy => ?_⟩
  obtain ⟨hin, hyy⟩ := List.getElem?_eq_some_iff.1 hy
  have hin' : i < n := by rw [hlen] at hin; exact hin
  have hyg : y = g ⟨i, hin'⟩ := by rw [← hyy]; simp
  rw [hyg]
  obtain ⟨b, o, e, hr⟩ := gs ⟨i, hin'⟩
  exact ⟨b, o, by rw [e], hr⟩

section
variable {H : Type} {enc : TypeId × Value → H} {w : World} {base : Nat} {spare : Nat → Bool} {held : Bool}

theorem layer_fields : ∃ fs : Array Field, Tryd.prog.underlying 37 = some (.struct fs) ∧ oneCellFields Tryd.prog fs = true ∧ fs.size = 3 ∧ (∃ f, fs[0]? = some f ∧ f.type = 4) ∧ (∃ f, fs[1]? = some f ∧ f.type = 9) ∧ (∃ f, fs[2]? = some f ∧ f.type = 3) := by
  refine ⟨_, Tryd.underlying37, ?_, rfl, ⟨_, rfl, rfl⟩, ⟨_, rfl, rfl⟩, ⟨_, rfl, rfl⟩⟩
  kernel_rfl

theorem open_layer {fuel : Nat} {ad : Addr} {x : DataW H × List MemPlace} {cs : List Value} (hc : w.cells? base ad 3 = some cs) (h : DataW.trod enc Tryd.prog w base spare held fuel 37 cs = some x) :
    ∃ y : Ly, w.cell? (ad.add 0) = some (.bool y.out) ∧ w.cell? (ad.add 1) = some (.string y.cls) ∧ w.cell? (ad.add 2) = some (.int .i64 y.lab) ∧ y.cls.size ≤ maxLen := by
  obtain ⟨fs, hs, hone, hsz, ⟨f0, e0, t0⟩, ⟨f1, e1, t1⟩, ⟨f2, e2, t2⟩⟩ := layer_fields
  obtain ⟨ys, n', hn', hy, hlen, hyl, hf⟩ := DataW.trod_struct hs h
  obtain ⟨_, hcl, hat⟩ := World.cells?_some hc
  have hcl3 : cs.length = 3 := hcl
  match cs, hcl3 with
  | [v0, v1, v2], _ =>
    obtain ⟨o0, k0⟩ := hone_of hone 0 f0 e0
    obtain ⟨o1, k1⟩ := hone_of hone 1 f1 e1
    obtain ⟨o2, k2⟩ := hone_of hone 2 f2 e2
    have g0 := hf 0 f0 e0
    have g1 := hf 1 f1 e1
    have g2 := hf 2 f2 e2
    rw [hsz] at hyl
    match ys, hyl with
    | [y0, y1, y2], _ =>
      rw [o0, k0, t0] at g0
      rw [o1, k1, t1] at g1
      rw [o2, k2, t2] at g2
      have c0 := hat 0 (by decide)
      have c1 := hat 1 (by decide)
      have c2 := hat 2 (by decide)
      have g0' : DataW.trod enc Tryd.prog w base spare held n' 4 [v0] = some y0 := g0
      have g1' : DataW.trod enc Tryd.prog w base spare held n' 9 [v1] = some y1 := g1
      have g2' : DataW.trod enc Tryd.prog w base spare held n' 3 [v2] = some y2 := g2
      obtain ⟨m0, r0, _⟩ := DataW.trod_bool Tryd.underlying4 g0'
      obtain ⟨s1, r1, _, w1⟩ := DataW.trod_string Tryd.underlying9 g1'
      obtain ⟨m2, r2, _, w2⟩ := DataW.trod_int Tryd.underlying3 g2'
      injection r0 with r0
      injection r1 with r1
      injection r2 with r2
      subst r0 r1 r2
      exact ⟨⟨m0, s1, m2⟩, c0, c1, c2, w1⟩

theorem open_lys {fuel : Nat} {v : Value} {x : DataW H × List MemPlace} (h : DataW.trod enc Tryd.prog w base spare held fuel 23 [v] = some x) :
    ∃ l : List Ly, LysAt w v l := by
  rcases open_slice Tryd.underlying23 h with ⟨hcs, _⟩ | ⟨ad, len, cap, m, k, D, Pl, hcs, hb, hl, hm, hmm, hx, hi⟩
  · cases hcs
    exact ⟨[], Row.nil⟩
  · cases hcs
    have hC : Tryd.prog.cellsOf 37 = 3 := by kernel_rfl
    obtain ⟨l, hl', hr⟩ := row_of_eachL (k := 3) (R := LyAt) (w := w) (ad := ad) hl hm (fun i hin => by
      have hspot : ad.spot = none := by
        obtain ⟨cs0, hc0, ht0⟩ := hi 0 (by rw [hmm]; split <;> omega)
        rw [hC] at hc0
        obtain ⟨_, d0, _⟩ := open_layer hc0 ht0
        simpa [Addr.add] using World.cell?_spot d0
      obtain ⟨cs', hc, ht'⟩ := hi i (by rw [hmm]; split <;> omega)
      rw [hC] at hc
      obtain ⟨y, c0, c1, c2, z0⟩ := open_layer hc ht'
      obtain ⟨b, off, spot⟩ := ad
      have hs2 : spot = none := hspot
      subst hs2
      simp only [addr_plainL, Nat.add_zero] at c0 c1 c2
      exact ⟨y, b, off, rfl, c0, c1, c2, z0⟩)
    exact ⟨l, hr⟩
end
end Go.Proofs.YtcaailiijmjdlaaDoor
