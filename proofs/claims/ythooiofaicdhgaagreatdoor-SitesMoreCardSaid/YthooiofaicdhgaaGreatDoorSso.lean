/- A slice of sites that came in, opened to its cells. -/
import Derived.Test.YthooiofaicdhgaaGreatDoorSsp
import Derived.Test.YthooiofaicdhgaaGreatDoorTfr
set_option linter.unusedSimpArgs false
set_option linter.unusedVariables false
set_option maxRecDepth 100000
namespace Go.Proofs.YthooiofaicdhgaaGreatDoor
open Go.ChangeShapes Go.WideShapes Go.ChangeAt Go.RowKit Go.Deep

section
variable {H : Type} {enc : TypeId × Value → H} {w : World} {base : Nat} {spare : Nat → Bool} {held : Bool}

theorem site_fields : ∃ fs : Array Field, Tryz.prog.underlying 80 = some (.struct fs) ∧ oneCellFields Tryz.prog fs = true ∧ fs.size = 3 ∧ (∃ f, fs[0]? = some f ∧ f.type = 3) ∧ (∃ f, fs[1]? = some f ∧ f.type = 9) ∧ (∃ f, fs[2]? = some f ∧ f.type = 9) := by
  refine ⟨_, Tryz.underlying80, ?_, rfl, ⟨_, rfl, rfl⟩, ⟨_, rfl, rfl⟩, ⟨_, rfl, rfl⟩⟩
  kernel_rfl

theorem open_site {fuel : Nat} {ad : Addr} {x : DataW H × List MemPlace} {cs : List Value} (hc : w.cells? base ad 3 = some cs) (h : DataW.trod enc Tryz.prog w base spare held fuel 80 cs = some x) :
    ∃ y : Tab.St, w.cell? (ad.add 0) = some (.int .i64 y.what) ∧ w.cell? (ad.add 1) = some (.string y.a) ∧ w.cell? (ad.add 2) = some (.string y.b) ∧ y.a.size ≤ maxLen ∧ y.b.size ≤ maxLen := by
  obtain ⟨fs, hs, hone, hsz, ⟨f0, e0, t0⟩, ⟨f1, e1, t1⟩, ⟨f2, e2, t2⟩⟩ := site_fields
  obtain ⟨ys, n', hn', hy, hlen, hyl, hf⟩ := DataW.trod_struct hs h
  obtain ⟨_, hcl, hat⟩ := World.cells?_some hc
  have hcl3 : cs.length = 3 := hcl
  match cs, hcl3 with
  | [v0, v1, v2], _ =>
    obtain ⟨o0, k0⟩ := hone_of hone 0 f0 e0
    obtain ⟨o1, k1⟩ := hone_of hone 1 f1 e1
    obtain ⟨o2, k2⟩ := hone_of hone 2 f2 e2
    have g0 := hf 0 f0 e0
    have g1 := hf 1 f1 e1
    have g2 := hf 2 f2 e2
    rw [hsz] at hyl
    match ys, hyl with
    | [y0, y1, y2], _ =>
      rw [o0, k0, t0] at g0
      rw [o1, k1, t1] at g1
      rw [o2, k2, t2] at g2
      have c0 := hat 0 (by decide)
      have c1 := hat 1 (by decide)
      have c2 := hat 2 (by decide)
      have g0' : DataW.trod enc Tryz.prog w base spare held n' 3 [v0] = some y0 := g0
      have g1' : DataW.trod enc Tryz.prog w base spare held n' 9 [v1] = some y1 := g1
      have g2' : DataW.trod enc Tryz.prog w base spare held n' 9 [v2] = some y2 := g2
      obtain ⟨m0, r0, _, w0⟩ := DataW.trod_int Tryz.underlying3 g0'
      obtain ⟨s1, r1, _, w1⟩ := DataW.trod_string Tryz.underlying9 g1'
      obtain ⟨s2, r2, _, w2⟩ := DataW.trod_string Tryz.underlying9 g2'
      injection r0 with r0
      injection r1 with r1
      injection r2 with r2
      subst r0 r1 r2
      exact ⟨⟨m0, s1, s2⟩, c0, c1, c2, w1, w2⟩

theorem open_sites {fuel : Nat} {v : Value} {x : DataW H × List MemPlace} (h : DataW.trod enc Tryz.prog w base spare held fuel 62 [v] = some x) :
    ∃ l : List Tab.St, SitesAt w v l := by
  rcases open_slice Tryz.underlying62 h with ⟨hcs, _⟩ | ⟨ad, len, cap, m, k, D, Pl, hcs, hb, hl, hm, hmm, hx, hi⟩
  · cases hcs
    exact ⟨[], Row.none⟩
  · cases hcs
    have hC : Tryz.prog.cellsOf 80 = 3 := by kernel_rfl
    obtain ⟨l, hl', hr⟩ := row_of_each (k := 3) (R := SiteAt) (w := w) (ad := ad) hl hm (fun i hin => by
      have hspot : ad.spot = none := by
        obtain ⟨cs0, hc0, ht0⟩ := hi 0 (by rw [hmm]; split <;> omega)
        rw [hC] at hc0
        obtain ⟨_, d0, _⟩ := open_site hc0 ht0
        simpa [Addr.add] using World.cell?_spot d0
      obtain ⟨cs', hc, ht'⟩ := hi i (by rw [hmm]; split <;> omega)
      rw [hC] at hc
      obtain ⟨y, c0, c1, c2, z0, z1⟩ := open_site hc ht'
      obtain ⟨b, off, spot⟩ := ad
      have hs2 : spot = none := hspot
      subst hs2
      simp only [addr_plain, Nat.add_zero] at c0 c1 c2
      exact ⟨y, b, off, rfl, c0, c1, c2, z0, z1⟩)
    exact ⟨l, hr⟩
end
end Go.Proofs.YthooiofaicdhgaaGreatDoor
