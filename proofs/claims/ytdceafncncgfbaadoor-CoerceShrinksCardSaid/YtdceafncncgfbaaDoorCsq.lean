import Derived.Test.YtdceafncncgfbaaDoorLyr
import Derived.Test.YtdceafncncgfbaaDoorKtt
import Derived.OpenShut
import Derived.Carry
import Derived.ShutString
import Derived.ProofKit
import Derived.Deep.Fields
import Derived.Deep.Slices
import Derived.ChangeSame
import Derived.Lib.LaidTab
import Derived.Test.YtdceafncncgfbaaDoorWtb
import Derived.Lib.LaidU8
import Derived.Test.YtdceafncncgfbaaDoorTbf
import Derived.Test.YtdceafncncgfbaaDoorLnr
import Derived.Test.YtdceafncncgfbaaDoorCsh
import Derived.Laws.StructEq
import Derived.Test.YtdceafncncgfbaaDoorCka
import Derived.Test.YtdceafncncgfbaaDoorCof
import Derived.Test.YtdceafncncgfbaaDoorLgt
/- A slice of layers, and a layer, that came in. -/
set_option linter.unusedSimpArgs false
set_option linter.unusedVariables false
set_option maxRecDepth 100000
namespace Go.Proofs.YtdceafncncgfbaaDoor
open Go.ChangeShapes Go.WideShapes Go.ChangeAt Go.RowKit Go.Deep

theorem row_of_eachL {α : Type} {k : Nat} {R : World → Nat → Nat → α → Prop} {w : World} {ad : Addr} {n c : Nat} (hl : n ≤ c) (hm : c ≤ maxLen)
    (each : ∀ i, i < n → ∃ y : α, ∃ b o, ad = ⟨b, o, none⟩ ∧ R w b (o + i * k) y) : ∃ l : List α, l.length = n ∧ Row k R w (.slice (some ad) n c) l := by
  let g : Fin n → α := fun i => Classical.choose (each i.1 i.2)
  have gs : ∀ i : Fin n, ∃ b o, ad = ⟨b, o, none⟩ ∧ R w b (o + i.1 * k) (g i) := fun i => Classical.choose_spec (each i.1 i.2)
  have hlen : (List.ofFn g).length = n := List.length_ofFn
  refine ⟨List.ofFn g, hlen, some ad, c, by rw [hlen], by rw [hlen]; exact hl, hm, fun i y hy => ?_⟩
  obtain ⟨hin, hyy⟩ := List.getElem?_eq_some_iff.1 hy
  have hin' : i < n := by rw [hlen] at hin; exact hin
  have hyg : y = g ⟨i, hin'⟩ := by rw [← hyy]; simp
  rw [hyg]
  obtain ⟨b, o, e, hr⟩ := gs ⟨i, hin'⟩
  exact ⟨b, o, by rw [e], hr⟩

section
variable {H : Type} {enc : TypeId × Value → H} {w : World} {base : Nat} {spare : Nat → Bool} {held : Bool}

theorem layer_fields : ∃ fs : Array Field, Tryd.prog.underlying 35 = some (.struct fs) ∧ oneCellFields Tryd.prog fs = true ∧ fs.size = 3 ∧ (∃ f, fs[0]? = some f ∧ f.type = 4) ∧ (∃ f, fs[1]? = some f ∧ f.type = 9) ∧ (∃ f, fs[2]? = some f ∧ f.type = 3) := by
  refine ⟨_, Tryd.underlying35, ?_, rfl, ⟨_, rfl, rfl⟩, ⟨_, rfl, rfl⟩, ⟨_, rfl, rfl⟩⟩
  kernel_rfl

theorem open_layer {fuel : Nat} {ad : Addr} {x : DataW H × List MemPlace} {cs : List Value} (hc : w.cells? base ad 3 = some cs) (h : DataW.trod enc Tryd.prog w base spare held fuel 35 cs = some x) :
    ∃ y : Ly, w.cell? (ad.add 0) = some (.bool y.out) ∧ w.cell? (ad.add 1) = some (.string y.cls) ∧ w.cell? (ad.add 2) = some (.int .i64 y.lab) ∧ y.cls.size ≤ maxLen := by
  obtain ⟨fs, hs, hone, hsz, ⟨f0, e0, t0⟩, ⟨f1, e1, t1⟩, ⟨f2, e2, t2⟩⟩ := layer_fields
  obtain ⟨ys, n', hn', hy, hlen, hyl, hf⟩ := DataW.trod_struct hs h
  obtain ⟨_, hcl, hat⟩ := World.cells?_some hc
  have hcl3 : cs.length = 3 := hcl
  match cs, hcl3 with
  | [v0, v1, v2], _ =>
    obtain ⟨o0, k0⟩ := hone_of hone 0 f0 e0
    obtain ⟨o1, k1⟩ := hone_of hone 1 f1 e1
    obtain ⟨o2, k2⟩ := hone_of hone 2 f2 e2
    have g0 := hf 0 f0 e0
    have g1 := hf 1 f1 e1
    have g2 := hf 2 f2 e2
    rw [hsz] at hyl
    match ys, hyl with
    | [y0, y1, y2], _ =>
      rw [o0, k0, t0] at g0
      rw [o1, k1, t1] at g1
      rw [o2, k2, t2] at g2
      have c0 := hat 0 (by decide)
      have c1 := hat 1 (by decide)
      have c2 := hat 2 (by decide)
      have g0' : DataW.trod enc Tryd.prog w base spare held n' 4 [v0] = some y0 := g0
      have g1' : DataW.trod enc Tryd.prog w base spare held n' 9 [v1] = some y1 := g1
      have g2' : DataW.trod enc Tryd.prog w base spare held n' 3 [v2] = some y2 := g2
      obtain ⟨m0, r0, _⟩ := DataW.trod_bool Tryd.underlying4 g0'
      obtain ⟨s1, r1, _, w1⟩ := DataW.trod_string Tryd.underlying9 g1'
      obtain ⟨m2, r2, _, w2⟩ := DataW.trod_int Tryd.underlying3 g2'
      injection r0 with r0
      injection r1 with r1
      injection r2 with r2
      subst r0 r1 r2
      exact ⟨⟨m0, s1, m2⟩, c0, c1, c2, w1⟩

theorem open_lys {fuel : Nat} {v : Value} {x : DataW H × List MemPlace} (h : DataW.trod enc Tryd.prog w base spare held fuel 25 [v] = some x) :
    ∃ l : List Ly, LysAt w v l := by
  rcases open_slice Tryd.underlying25 h with ⟨hcs, _⟩ | ⟨ad, len, cap, m, k, D, Pl, hcs, hb, hl, hm, hmm, hx, hi⟩
  · cases hcs
    exact ⟨[], Row.nil⟩
  · cases hcs
    have hC : Tryd.prog.cellsOf 35 = 3 := by kernel_rfl
    obtain ⟨l, hl', hr⟩ := row_of_eachL (k := 3) (R := LyAt) (w := w) (ad := ad) hl hm (fun i hin => by
      have hspot : ad.spot = none := by
        obtain ⟨cs0, hc0, ht0⟩ := hi 0 (by rw [hmm]; split <;> omega)
        rw [hC] at hc0
        obtain ⟨_, d0, _⟩ := open_layer hc0 ht0
        simpa [Addr.add] using World.cell?_spot d0
      obtain ⟨cs', hc, ht'⟩ := hi i (by rw [hmm]; split <;> omega)
      rw [hC] at hc
      obtain ⟨y, c0, c1, c2, z0⟩ := open_layer hc ht'
      obtain ⟨b, off, spot⟩ := ad
      have hs2 : spot = none := hspot
      subst hs2
      simp only [addr_plainL, Nat.add_zero] at c0 c1 c2
      exact ⟨y, b, off, rfl, c0, c1, c2, z0⟩)
    exact ⟨l, hr⟩
end
end Go.Proofs.YtdceafncncgfbaaDoor

/- A slice of classes that came in, opened to its cells: classes, fields, methods, parameters (behind Wtb and Ktt: the second half of Tfr). -/
set_option linter.unusedSimpArgs false
set_option linter.unusedVariables false
set_option maxRecDepth 100000
namespace Go.Proofs.YtdceafncncgfbaaDoor
open Go.ChangeShapes Go.WideShapes Go.ChangeAt Go.RowKit Go.Deep

theorem row_of_each {α : Type} {k : Nat} {R : World → Nat → Nat → α → Prop} {w : World} {ad : Addr} {n c : Nat} (hl : n ≤ c) (hm : c ≤ maxLen)
    (each : ∀ i, i < n → ∃ y : α, ∃ b o, ad = ⟨b, o, none⟩ ∧ R w b (o + i * k) y) : ∃ l : List α, l.length = n ∧ Row k R w (.slice (some ad) n c) l := by
  let g : Fin n → α := fun i => Classical.choose (each i.1 i.2)
  have gs : ∀ i : Fin n, ∃ b o, ad = ⟨b, o, none⟩ ∧ R w b (o + i.1 * k) (g i) := fun i => Classical.choose_spec (each i.1 i.2)
  have hlen : (List.ofFn g).length = n := List.length_ofFn
  refine ⟨List.ofFn g, hlen, some ad, c, by rw [hlen], by rw [hlen]; exact hl, hm, fun i y hy => ?_⟩
  obtain ⟨hin, hyy⟩ := List.getElem?_eq_some_iff.1 hy
  have hin' : i < n := by rw [hlen] at hin; exact hin
  have hyg : y = g ⟨i, hin'⟩ := by rw [← hyy]; simp
  rw [hyg]
  obtain ⟨b, o, e, hr⟩ := gs ⟨i, hin'⟩
  exact ⟨b, o, by rw [e], hr⟩

theorem Row.none {α : Type} {k : Nat} {R : World → Nat → Nat → α → Prop} {w : World} : Row k R w (.slice .none 0 0) [] :=
  ⟨.none, 0, rfl, Nat.le_refl _, Nat.zero_le _, fun i x h => by cases h⟩

section
variable {H : Type} {enc : TypeId × Value → H} {w : World} {base : Nat} {spare : Nat → Bool} {held : Bool}

theorem var_fields : ∃ fs : Array Field, Tryd.prog.underlying 58 = some (.struct fs) ∧ oneCellFields Tryd.prog fs = true ∧ fs.size = 2 ∧ (∃ f, fs[0]? = some f ∧ f.type = 9) ∧ (∃ f, fs[1]? = some f ∧ f.type = 9) := by
  refine ⟨_, Tryd.underlying58, ?_, rfl, ⟨_, rfl, rfl⟩, ⟨_, rfl, rfl⟩⟩
  kernel_rfl

theorem open_var {fuel : Nat} {ad : Addr} {x : DataW H × List MemPlace} {cs : List Value} (hc : w.cells? base ad 2 = some cs) (h : DataW.trod enc Tryd.prog w base spare held fuel 58 cs = some x) :
    ∃ y : Tab.V, w.cell? (ad.add 0) = some (.string y.name) ∧ w.cell? (ad.add 1) = some (.string y.typ) ∧ y.name.size ≤ maxLen ∧ y.typ.size ≤ maxLen := by
  obtain ⟨fs, hs, hone, hsz, ⟨f0, e0, t0⟩, ⟨f1, e1, t1⟩⟩ := var_fields
  obtain ⟨ys, n', hn', hy, hlen, hyl, hf⟩ := DataW.trod_struct hs h
  obtain ⟨_, hcl, hat⟩ := World.cells?_some hc
  have hcl3 : cs.length = 2 := hcl
  match cs, hcl3 with
  | [v0, v1], _ =>
    obtain ⟨o0, k0⟩ := hone_of hone 0 f0 e0
    obtain ⟨o1, k1⟩ := hone_of hone 1 f1 e1
    have g0 := hf 0 f0 e0
    have g1 := hf 1 f1 e1
    rw [hsz] at hyl
    match ys, hyl with
    | [y0, y1], _ =>
      rw [o0, k0, t0] at g0
      rw [o1, k1, t1] at g1
      have c0 := hat 0 (by decide)
      have c1 := hat 1 (by decide)
      have g0' : DataW.trod enc Tryd.prog w base spare held n' 9 [v0] = some y0 := g0
      have g1' : DataW.trod enc Tryd.prog w base spare held n' 9 [v1] = some y1 := g1
      obtain ⟨s0, r0, _, w0⟩ := DataW.trod_string Tryd.underlying9 g0'
      obtain ⟨s1, r1, _, w1⟩ := DataW.trod_string Tryd.underlying9 g1'
      injection r0 with r0
      injection r1 with r1
      subst r0 r1
      exact ⟨⟨s0, s1⟩, c0, c1, w0, w1⟩

theorem open_vars {fuel : Nat} {v : Value} {x : DataW H × List MemPlace} (h : DataW.trod enc Tryd.prog w base spare held fuel 59 [v] = some x) :
    ∃ l : List Tab.V, Row 2 VarAt w v l := by
  rcases open_slice Tryd.underlying59 h with ⟨hcs, _⟩ | ⟨ad, len, cap, m, k, D, Pl, hcs, hb, hl, hm, hmm, hx, hi⟩
  · cases hcs
    exact ⟨[], Row.none⟩
  · cases hcs
    have hC : Tryd.prog.cellsOf 58 = 2 := by kernel_rfl
    obtain ⟨l, hl', hr⟩ := row_of_each (k := 2) (R := VarAt) (w := w) (ad := ad) hl hm (fun i hin => by
      have hspot : ad.spot = none := by
        obtain ⟨cs0, hc0, ht0⟩ := hi 0 (by rw [hmm]; split <;> omega)
        rw [hC] at hc0
        obtain ⟨_, d0, _⟩ := open_var hc0 ht0
        simpa [Addr.add] using World.cell?_spot d0
      obtain ⟨cs', hc, ht'⟩ := hi i (by rw [hmm]; split <;> omega)
      rw [hC] at hc
      obtain ⟨y, c0, c1, z0, z1⟩ := open_var hc ht'
      obtain ⟨b, off, spot⟩ := ad
      have hs2 : spot = none := hspot
      subst hs2
      simp only [addr_plain, Nat.add_zero] at c0 c1
      exact ⟨y, b, off, rfl, c0, c1, z0, z1⟩)
    exact ⟨l, hr⟩

theorem sig_fields : ∃ fs : Array Field, Tryd.prog.underlying 61 = some (.struct fs) ∧ oneCellFields Tryd.prog fs = true ∧ fs.size = 3 ∧ (∃ f, fs[0]? = some f ∧ f.type = 9) ∧ (∃ f, fs[1]? = some f ∧ f.type = 59) ∧ (∃ f, fs[2]? = some f ∧ f.type = 9) := by
  refine ⟨_, Tryd.underlying61, ?_, rfl, ⟨_, rfl, rfl⟩, ⟨_, rfl, rfl⟩, ⟨_, rfl, rfl⟩⟩
  kernel_rfl

theorem open_sig {fuel : Nat} {ad : Addr} {x : DataW H × List MemPlace} {cs : List Value} (hc : w.cells? base ad 3 = some cs) (h : DataW.trod enc Tryd.prog w base spare held fuel 61 cs = some x) :
    ∃ y : Tab.M, w.cell? (ad.add 0) = some (.string y.name) ∧ (∃ v, w.cell? (ad.add 1) = some v ∧ Row 2 VarAt w v y.params) ∧ w.cell? (ad.add 2) = some (.string y.res) ∧ y.name.size ≤ maxLen ∧ y.res.size ≤ maxLen := by
  obtain ⟨fs, hs, hone, hsz, ⟨f0, e0, t0⟩, ⟨f1, e1, t1⟩, ⟨f2, e2, t2⟩⟩ := sig_fields
  obtain ⟨ys, n', hn', hy, hlen, hyl, hf⟩ := DataW.trod_struct hs h
  obtain ⟨_, hcl, hat⟩ := World.cells?_some hc
  have hcl3 : cs.length = 3 := hcl
  match cs, hcl3 with
  | [v0, v1, v2], _ =>
    obtain ⟨o0, k0⟩ := hone_of hone 0 f0 e0
    obtain ⟨o1, k1⟩ := hone_of hone 1 f1 e1
    obtain ⟨o2, k2⟩ := hone_of hone 2 f2 e2
    have g0 := hf 0 f0 e0
    have g1 := hf 1 f1 e1
    have g2 := hf 2 f2 e2
    rw [hsz] at hyl
    match ys, hyl with
    | [y0, y1, y2], _ =>
      rw [o0, k0, t0] at g0
      rw [o1, k1, t1] at g1
      rw [o2, k2, t2] at g2
      have c0 := hat 0 (by decide)
      have c1 := hat 1 (by decide)
      have c2 := hat 2 (by decide)
      have g0' : DataW.trod enc Tryd.prog w base spare held n' 9 [v0] = some y0 := g0
      have g1' : DataW.trod enc Tryd.prog w base spare held n' 59 [v1] = some y1 := g1
      have g2' : DataW.trod enc Tryd.prog w base spare held n' 9 [v2] = some y2 := g2
      obtain ⟨s0, r0, _, w0⟩ := DataW.trod_string Tryd.underlying9 g0'
      obtain ⟨l, hr⟩ := open_vars g1'
      obtain ⟨s2, r2, _, w2⟩ := DataW.trod_string Tryd.underlying9 g2'
      injection r0 with r0
      injection r2 with r2
      subst r0 r2
      exact ⟨⟨s0, l, s2⟩, c0, ⟨v1, c1, hr⟩, c2, w0, w2⟩

theorem open_sigs {fuel : Nat} {v : Value} {x : DataW H × List MemPlace} (h : DataW.trod enc Tryd.prog w base spare held fuel 62 [v] = some x) :
    ∃ l : List Tab.M, Row 3 SigAt w v l := by
  rcases open_slice Tryd.underlying62 h with ⟨hcs, _⟩ | ⟨ad, len, cap, m, k, D, Pl, hcs, hb, hl, hm, hmm, hx, hi⟩
  · cases hcs
    exact ⟨[], Row.none⟩
  · cases hcs
    have hC : Tryd.prog.cellsOf 61 = 3 := by kernel_rfl
    obtain ⟨l, hl', hr⟩ := row_of_each (k := 3) (R := SigAt) (w := w) (ad := ad) hl hm (fun i hin => by
      have hspot : ad.spot = none := by
        obtain ⟨cs0, hc0, ht0⟩ := hi 0 (by rw [hmm]; split <;> omega)
        rw [hC] at hc0
        obtain ⟨_, d0, _⟩ := open_sig hc0 ht0
        simpa [Addr.add] using World.cell?_spot d0
      obtain ⟨cs', hc, ht'⟩ := hi i (by rw [hmm]; split <;> omega)
      rw [hC] at hc
      obtain ⟨y, c0, ⟨u, c1, hr⟩, c2, z0, z1⟩ := open_sig hc ht'
      obtain ⟨b, off, spot⟩ := ad
      have hs2 : spot = none := hspot
      subst hs2
      simp only [addr_plain, Nat.add_zero] at c0 c1 c2
      exact ⟨y, b, off, rfl, c0, ⟨u, c1, hr⟩, c2, z0, z1⟩)
    exact ⟨l, hr⟩

theorem cls_fields : ∃ fs : Array Field, Tryd.prog.underlying 64 = some (.struct fs) ∧ oneCellFields Tryd.prog fs = true ∧ fs.size = 4 ∧ (∃ f, fs[0]? = some f ∧ f.type = 9) ∧ (∃ f, fs[1]? = some f ∧ f.type = 9) ∧ (∃ f, fs[2]? = some f ∧ f.type = 59) ∧ (∃ f, fs[3]? = some f ∧ f.type = 62) := by
  refine ⟨_, Tryd.underlying64, ?_, rfl, ⟨_, rfl, rfl⟩, ⟨_, rfl, rfl⟩, ⟨_, rfl, rfl⟩, ⟨_, rfl, rfl⟩⟩
  kernel_rfl

theorem open_cls {fuel : Nat} {ad : Addr} {x : DataW H × List MemPlace} {cs : List Value} (hc : w.cells? base ad 4 = some cs) (h : DataW.trod enc Tryd.prog w base spare held fuel 64 cs = some x) :
    ∃ y : Tab.C, w.cell? (ad.add 0) = some (.string y.name) ∧ w.cell? (ad.add 1) = some (.string y.super) ∧ (∃ v, w.cell? (ad.add 2) = some v ∧ Row 2 VarAt w v y.fields) ∧ (∃ v, w.cell? (ad.add 3) = some v ∧ Row 3 SigAt w v y.methods) ∧ y.name.size ≤ maxLen ∧ y.super.size ≤ maxLen := by
  obtain ⟨fs, hs, hone, hsz, ⟨f0, e0, t0⟩, ⟨f1, e1, t1⟩, ⟨f2, e2, t2⟩, ⟨f3, e3, t3⟩⟩ := cls_fields
  obtain ⟨ys, n', hn', hy, hlen, hyl, hf⟩ := DataW.trod_struct hs h
  obtain ⟨_, hcl, hat⟩ := World.cells?_some hc
  have hcl3 : cs.length = 4 := hcl
  match cs, hcl3 with
  | [v0, v1, v2, v3], _ =>
    obtain ⟨o0, k0⟩ := hone_of hone 0 f0 e0
    obtain ⟨o1, k1⟩ := hone_of hone 1 f1 e1
    obtain ⟨o2, k2⟩ := hone_of hone 2 f2 e2
    obtain ⟨o3, k3⟩ := hone_of hone 3 f3 e3
    have g0 := hf 0 f0 e0
    have g1 := hf 1 f1 e1
    have g2 := hf 2 f2 e2
    have g3 := hf 3 f3 e3
    rw [hsz] at hyl
    match ys, hyl with
    | [y0, y1, y2, y3], _ =>
      rw [o0, k0, t0] at g0
      rw [o1, k1, t1] at g1
      rw [o2, k2, t2] at g2
      rw [o3, k3, t3] at g3
      have c0 := hat 0 (by decide)
      have c1 := hat 1 (by decide)
      have c2 := hat 2 (by decide)
      have c3 := hat 3 (by decide)
      have g0' : DataW.trod enc Tryd.prog w base spare held n' 9 [v0] = some y0 := g0
      have g1' : DataW.trod enc Tryd.prog w base spare held n' 9 [v1] = some y1 := g1
      have g2' : DataW.trod enc Tryd.prog w base spare held n' 59 [v2] = some y2 := g2
      have g3' : DataW.trod enc Tryd.prog w base spare held n' 62 [v3] = some y3 := g3
      obtain ⟨s0, r0, _, w0⟩ := DataW.trod_string Tryd.underlying9 g0'
      obtain ⟨s1, r1, _, w1⟩ := DataW.trod_string Tryd.underlying9 g1'
      obtain ⟨l, hr⟩ := open_vars g2'
      obtain ⟨l', hr'⟩ := open_sigs g3'
      injection r0 with r0
      injection r1 with r1
      subst r0 r1
      exact ⟨⟨s0, s1, l, l'⟩, c0, c1, ⟨v2, c2, hr⟩, ⟨v3, c3, hr'⟩, w0, w1⟩

theorem open_tab {fuel : Nat} {v : Value} {x : DataW H × List MemPlace} (h : DataW.trod enc Tryd.prog w base spare held fuel 22 [v] = some x) :
    ∃ l : List Tab.C, TabAt w v l := by
  rcases open_slice Tryd.underlying22 h with ⟨hcs, _⟩ | ⟨ad, len, cap, m, k, D, Pl, hcs, hb, hl, hm, hmm, hx, hi⟩
  · cases hcs
    exact ⟨[], Row.none⟩
  · cases hcs
    have hC : Tryd.prog.cellsOf 64 = 4 := by kernel_rfl
    obtain ⟨l, hl', hr⟩ := row_of_each (k := 4) (R := ClsAt) (w := w) (ad := ad) hl hm (fun i hin => by
      have hspot : ad.spot = none := by
        obtain ⟨cs0, hc0, ht0⟩ := hi 0 (by rw [hmm]; split <;> omega)
        rw [hC] at hc0
        obtain ⟨_, d0, _⟩ := open_cls hc0 ht0
        simpa [Addr.add] using World.cell?_spot d0
      obtain ⟨cs', hc, ht'⟩ := hi i (by rw [hmm]; split <;> omega)
      rw [hC] at hc
      obtain ⟨y, c0, c1, ⟨u, c2, hr⟩, ⟨u', c3, hr'⟩, z0, z1⟩ := open_cls hc ht'
      obtain ⟨b, off, spot⟩ := ad
      have hs2 : spot = none := hspot
      subst hs2
      simp only [addr_plain, Nat.add_zero] at c0 c1 c2 c3
      exact ⟨y, b, off, rfl, c0, c1, ⟨u, c2, hr⟩, ⟨u', c3, hr'⟩, z0, z1⟩)
    exact ⟨l, hr⟩
end
end Go.Proofs.YtdceafncncgfbaaDoor

/- same, at two lists of members that are the same. -/
set_option linter.unusedSimpArgs false
set_option linter.unusedVariables false
set_option maxRecDepth 100000
namespace Go.Proofs.YtdceafncncgfbaaDoor
open Go.ChangeShapes Go.WideShapes Go.ChangeAt Go.RowKit Go.Shelf

theorem neqMB (s t : ByteArray) (m n : Int) (w : World) : (binOp .neq tM (.agg #[.string s, .int .i64 m]) (.agg #[.string t, .int .i64 n])).run Tryd.prog w = .ok (.bool (!decide ((s, m) = (t, n)))) w := by
  have hf : Tryd.prog.fieldsOf tM = #[{ name := "Name", type := 9, offset := 0, embedded := false, tag := "", pkgPath := "", byteOffset := 0 }, { name := "Arity", type := 3, offset := 1, embedded := false, tag := "", pkgPath := "", byteOffset := 16 }] := by kernel_rfl
  have hp : Tryd.prog.stoodInHeld tM = false := by kernel_rfl
  have h1 : (part 9 #[.string s, .int .i64 m] 0).run Tryd.prog w = .ok (.string s) w := by kernel_rfl
  have h2 : (part 3 #[.string s, .int .i64 m] 1).run Tryd.prog w = .ok (.int .i64 m) w := by kernel_rfl
  have g1 : (part 9 #[.string t, .int .i64 n] 0).run Tryd.prog w = .ok (.string t) w := by kernel_rfl
  have g2 : (part 3 #[.string t, .int .i64 n] 1).run Tryd.prog w = .ok (.int .i64 n) w := by kernel_rfl
  have e1 := fun d => run_equalIn_string (P := Tryd.prog) w d 9 s t Tryd.underlying9
  have e2 := fun d => run_equalIn_int (P := Tryd.prog) w d 3 .i64 .i64 m n Tryd.underlying3
  have hs : (s.toList == t.toList) = decide (s = t) := by
    by_cases e : s = t
    · subst e; simp
    · rw [decide_eq_false e]
      exact beq_no e
  rw [run_neq_struct, show (10000 : Nat) = 9998 + 1 + 1 from rfl, run_equalIn_struct w _ _ _ _ (by rw [hf]; exact Tryd.underlying33) hp, hf]
  simp only [Op.eqFields, Sem.run_bind, Sem.run_ite, h1, h2, g1, g2, e1, e2, Result.andThen_ok, hs]
  have hd : decide ((s, m) = (t, n)) = (decide (s = t) && m == n) := by
    by_cases h2 : s = t <;> by_cases h3 : m = n <;> simp [h2, h3]
  rw [hd]
  cases h2 : decide (s = t) <;> cases h3 : (m == n) <;> simp [Op.eqFields, Result.andThen]

set_option maxHeartbeats 4000000 in
theorem sameM_y (l : List Mbr) (a b : Option Addr) (c d : Nat) (w : World) (ha : MbsAt w a l) (hb : MbsAt w b l) (hl : l.length ≤ 2002000) :
    Calls Tryd.prog 7 #[.slice a l.length c, .slice b l.length d] w fun e w' => e = .returned (.bool true) ∧ Kept w w' := by
  have HA := Lib.hid ha
  have HB := Lib.hid hb
  clear ha hb
  go_enter Tryd.func7, Tryd.ntmps7
  go_wp2_with fail
  go_loopw [5] (fun q wr => ∃ j : Nat, q = .int .i64 j ∧ j ≤ l.length ∧ Kept w wr) (fun q wr => l.length - (intOf q).toNat)
  case atStart => exact ⟨0, rfl, Nat.zero_le _, Kept.refl _⟩
  case round =>
    obtain ⟨j, rfl, hj, hk⟩ := hrel
    by_cases hlt : j < l.length
    · have hltI : (j : Int) < (l.length : Int) := by omega
      have hx : l[j]? = some l[j] := List.getElem?_eq_getElem hlt
      generalize l[j] = x at hx
      obtain ⟨xs, xn⟩ := x
      obtain ⟨ga, rfl, a0, a1⟩ := (HA.out.kept hk) j _ hx
      obtain ⟨gb, rfl, b0, b1⟩ := (HB.out.kept hk) j _ hx
      have hneq : ∀ w, (binOp .neq tM (.agg #[.string xs, .int .i64 xn]) (.agg #[.string xs, .int .i64 xn])).run Tryd.prog w = .ok (.bool false) w := fun w => by
        rw [neqMB]; simp
      have HK := Lib.hid hk
      clear hk hx
      go_wp2_with fail
      refine wp_region_held_drew (S := (fun W => W.cell? ⟨ga, j * 2, none⟩ = some (.string xs) ∧ W.cell? ⟨ga, j * 2 + 1, none⟩ = some (.int .i64 xn) ∧ W.cell? ⟨gb, j * 2, none⟩ = some (.string xs) ∧ W.cell? ⟨gb, j * 2 + 1, none⟩ = some (.int .i64 xn))) (by kernel_rfl) ⟨a0, a1, b0, b1⟩ (fun hHeld0 => ?_)
      refine wpAnyH_take (i := 0) (v := ?_) rfl (by kernel_rfl) (by kernel_rfl) (by kernel_rfl) (fun _ _ _ h => h) (Or.inl ⟨by kernel_rfl, ?_⟩) (by assumption) ?_
      rotate_left
      · intro w hSw; (try dsimp only at hSw); go_simp; (try with_reducible rfl)
      (try simp only [Act.put, List.getElem_toArray, List.getElem_cons_zero, List.getElem_cons_succ, List.setIfInBounds_toArray, List.set_cons_zero, List.set_cons_succ])
      refine wpAnyH_take (i := 1) (v := ?_) rfl (by kernel_rfl) (by kernel_rfl) (by kernel_rfl) (fun _ _ _ h => h) (Or.inl ⟨by kernel_rfl, ?_⟩) (by assumption) ?_
      rotate_left
      · intro w hSw; (try dsimp only at hSw); go_simp; (try with_reducible rfl)
      (try simp only [Act.put, List.getElem_toArray, List.getElem_cons_zero, List.getElem_cons_succ, List.setIfInBounds_toArray, List.set_cons_zero, List.set_cons_succ])
      refine wpAnyH_take (i := 2) (v := ?_) rfl (by kernel_rfl) (by kernel_rfl) (by kernel_rfl) (fun _ _ _ h => h) (Or.inl ⟨by kernel_rfl, ?_⟩) (by assumption) ?_
      rotate_left
      · intro w hSw; (try dsimp only at hSw); go_simp; (try with_reducible rfl)
      (try simp only [Act.put, List.getElem_toArray, List.getElem_cons_zero, List.getElem_cons_succ, List.setIfInBounds_toArray, List.set_cons_zero, List.set_cons_succ])
      refine wpAnyH_take (i := 3) (v := ?_) rfl (by kernel_rfl) (by kernel_rfl) (by kernel_rfl) (fun _ _ _ h => h) (Or.inl ⟨by kernel_rfl, ?_⟩) (by assumption) ?_
      rotate_left
      · intro w hSw; (try dsimp only at hSw); go_simp; (try with_reducible rfl)
      (try simp only [Act.put, List.getElem_toArray, List.getElem_cons_zero, List.getElem_cons_succ, List.setIfInBounds_toArray, List.set_cons_zero, List.set_cons_succ])
      refine wpAnyH_take (i := 4) (v := ?_) rfl (by kernel_rfl) (by kernel_rfl) (by kernel_rfl) (fun _ _ _ h => h) (Or.inl ⟨by kernel_rfl, ?_⟩) (by assumption) ?_
      rotate_left
      · intro w hSw; (try dsimp only at hSw); go_simp; (try with_reducible rfl)
      (try simp only [Act.put, List.getElem_toArray, List.getElem_cons_zero, List.getElem_cons_succ, List.setIfInBounds_toArray, List.set_cons_zero, List.set_cons_succ])
      refine wpAnyH_take (i := 5) (v := ?_) rfl (by kernel_rfl) (by kernel_rfl) (by kernel_rfl) (fun _ _ _ h => h) (Or.inl ⟨by kernel_rfl, ?_⟩) (by assumption) ?_
      rotate_left
      · intro w hSw; (try dsimp only at hSw); go_simp; (try with_reducible rfl)
      (try simp only [Act.put, List.getElem_toArray, List.getElem_cons_zero, List.getElem_cons_succ, List.setIfInBounds_toArray, List.set_cons_zero, List.set_cons_succ])
      refine wpAnyH_take (i := 6) (v := ?_) rfl (by kernel_rfl) (by kernel_rfl) (by kernel_rfl) (fun _ _ _ h => h) (Or.inl ⟨by kernel_rfl, ?_⟩) (by assumption) ?_
      rotate_left
      · intro w hSw; (try dsimp only at hSw); go_simp; (try with_reducible rfl)
      (try simp only [Act.put, List.getElem_toArray, List.getElem_cons_zero, List.getElem_cons_succ, List.setIfInBounds_toArray, List.set_cons_zero, List.set_cons_succ])
      refine wpAnyH_take (i := 7) (v := ?_) rfl (by kernel_rfl) (by kernel_rfl) (by kernel_rfl) (fun _ _ _ h => h) (Or.inl ⟨by kernel_rfl, ?_⟩) (by assumption) ?_
      rotate_left
      · intro w hSw; (try dsimp only at hSw); go_simp; (try with_reducible rfl)
      (try simp only [Act.put, List.getElem_toArray, List.getElem_cons_zero, List.getElem_cons_succ, List.setIfInBounds_toArray, List.set_cons_zero, List.set_cons_succ])
      refine wpAnyH_take (i := 8) (v := ?_) rfl (by kernel_rfl) (by kernel_rfl) (by kernel_rfl) (fun _ _ _ h => h) (Or.inl ⟨by kernel_rfl, ?_⟩) (by assumption) ?_
      rotate_left
      · intro w hSw; (try dsimp only at hSw); go_simp; (try with_reducible rfl)
      (try simp only [Act.put, List.getElem_toArray, List.getElem_cons_zero, List.getElem_cons_succ, List.setIfInBounds_toArray, List.set_cons_zero, List.set_cons_succ])
      refine wpAnyH_done (by kernel_rfl) ?_ _
      clear hHeld0
      go_wp2_with fail
      go_roundw
      case rel => exact ⟨j + 1, by go_num, by omega, HK.out.drew⟩
      case measure => simp [intOf]; omega
    · have hltI : ¬ (j : Int) < (l.length : Int) := by omega
      have HK := Lib.hid hk
      clear hk
      go_wp2_with fail
      go_ret
      exact ⟨rfl, HK.out⟩
end Go.Proofs.YtdceafncncgfbaaDoor

/- CoerceKnown. (genckx.py) -/
set_option linter.unusedSimpArgs false
set_option linter.unusedVariables false
set_option maxRecDepth 100000
namespace Go.Proofs.YtdceafncncgfbaaDoor
open Go.ChangeShapes Go.WideShapes Go.ChangeAt Go.RowKit Go.Shelf

abbrev nullW : Vw := ⟨6, 0, 0, e0w⟩
theorem sh1 : Co.showsP someT (objW bE) [] = [(bx, -1), (by_, -1)] := by kernel_rfl
theorem sh2 : Co.showsP someT (objW bE) [⟨false, bD, 1⟩] = [(bx, -1)] := by kernel_rfl
theorem sh3 : Co.showsP someT threeW [] = [] := by kernel_rfl
theorem shows_k (x : Vw) (R : List Mbr) (va : Option Addr) (vc : Nat) (l : List Ly) (a : Option Addr) (cp : Nat) (w : World) (hT : TabAt w (.slice a someT.length cp) someT) (hv : LysAt w (.slice va l.length vc) l) (hs : x.s.size ≤ maxLen) (hl : l.length ≤ 100000) (hr : Co.showsP someT x l = R) :
    Calls Tryd.prog 8 #[.slice a someT.length cp, vV x (.slice va l.length vc)] w (ShowsPost R w) := hr ▸ shows_c x va vc l a cp someT w hT some_small hv hs hl
theorem kc1 : (decide ((Co.valR threeW (Co.castR someT threeW [] bint bq 1)).1 = threeW ∧ (Co.valR threeW (Co.castR someT threeW [] bint bq 1)).2 = []) && decide (Co.labR (Co.castR someT threeW [] bint bq 1) = 0)) = true := by kernel_rfl
theorem kc2 : (decide ((Co.valR nullW (Co.castR someT nullW [] bq bD 3)).1 = nullW ∧ (Co.valR nullW (Co.castR someT nullW [] bq bD 3)).2 = []) && decide (Co.labR (Co.castR someT nullW [] bq bD 3) = 0)) = true := by kernel_rfl
theorem ke1 : (decide ((Co.valR (objW bD) (Co.enterR someT (objW bD) [] bE 5)).1 = zW ∧ (Co.valR (objW bD) (Co.enterR someT (objW bD) [] bE 5)).2 = []) && decide (Co.labR (Co.enterR someT (objW bD) [] bE 5) = 5)) = true := by kernel_rfl
theorem ke2 : (decide ((Co.valR threeW (Co.enterR someT threeW [] bD (-4))).1 = zW ∧ (Co.valR threeW (Co.enterR someT threeW [] bD (-4))).2 = []) && decide (Co.labR (Co.enterR someT threeW [] bD (-4)) = -4)) = true := by kernel_rfl
theorem kl1 : Co.sentP false [] (Co.wrapL threeW [] ⟨false, bD, 1⟩) = [] := by kernel_rfl
theorem ki_val : Co.valR threeW (Co.goR someT threeW (fun c => Co.takenP someT c bm 1) true (objW bC) cL []) = (threeW, []) := by kernel_rfl
theorem ki_lab : Co.labR (Co.goR someT threeW (fun c => Co.takenP someT c bm 1) true (objW bC) cL []) = 0 := by kernel_rfl
theorem ki_c (ta : Option Addr) (tcp : Nat) (qc : Nat) (W : World) (hT : TabAt W (.slice ta someT.length tcp) someT) (hTb : Tb W) (hL : LysAt W (.slice (some ⟨qc, 0, none⟩) cL.length 2) cL) :
    Calls Tryd.prog 16 #[.slice ta someT.length tcp, vV (objW bC) (.slice (some ⟨qc, 0, none⟩) cL.length 2), .string bm, .int .i64 1, vV threeW (.slice none ([] : List Ly).length 0), .bool false] W (AnsPost (threeW, []) 0 W) :=
  (oinward_c false threeW none 0 [] ta tcp someT (objW bC) (some ⟨qc, 0, none⟩) 2 cL bm 1 W hT some_small hTb Row.nil hL (by decide) (small1 (by decide)) (by decide)).mono (fun e w' h => by have := ans_of h; rwa [sent_false, ki_val, ki_lab] at this)
theorem mbs_lit1 {W : World} {q : Nat} {x : Mbr} (h : Blk W q tM #[.string x.1, .int .i64 x.2]) : MbsAt W (some ⟨q, 0, none⟩) [x] := fun k p hp => by
  cases k with
  | zero => simp at hp; subst hp; exact ⟨q, rfl, h.cell _, h.cell _⟩
  | succ k => simp at hp
theorem mbs_lit2 {W : World} {q : Nat} {x y : Mbr} (h : Blk W q tM #[.string x.1, .int .i64 x.2, .string y.1, .int .i64 y.2]) : MbsAt W (some ⟨q, 0, none⟩) [x, y] := fun k p hp => by
  cases k with
  | zero => simp at hp; subst hp; exact ⟨q, rfl, h.cell _, h.cell _⟩
  | succ k => cases k with
    | zero => simp at hp; subst hp; exact ⟨q, rfl, h.cell _, h.cell _⟩
    | succ k => simp at hp

set_option maxHeartbeats 32000000 in
theorem known_c (w : World) (hTb : Tb w) : Calls Tryd.prog 3 #[] w fun e w' => e = .returned (.bool true) ∧ Kept w w' := by
  have HTb := Lib.hid hTb
  clear hTb
  have kq := Lib.hid (Kept.refl w)
  go_enter Tryd.func3, Tryd.ntmps3
  go_wp2_with (fail)
  refine (some_c w).mono ?_
  rintro e y1 ⟨ta, tcp, rfl, hT, kn⟩
  have HT := Lib.hid hT
  clear hT
  replace kq := Lib.hid (kq.out.trans kn)
  clear kn
  obtain ⟨y2, hn⟩ : ∃ W, y1.alloc (.cells #[.int .i64 6, .int .i64 0, .int .u64 0, .string e0w, .slice none 0 0] uT) = W := ⟨_, rfl⟩
  have kn : Kept y1 y2 := by rw [← hn]; exact (Kept.refl _).alloc _
  obtain ⟨bnu, hqbnu⟩ : ∃ q, y1.heap.size = q := ⟨_, rfl⟩
  have BNU := Lib.hid (show Blk y2 bnu uT #[.int .i64 6, .int .i64 0, .int .u64 0, .string e0w, .slice none 0 0] from (by rw [← hn, ← hqbnu]; exact Blk.new _ _ _))
  have HNy2 := Lib.hid hn
  clear hn
  replace HT := Lib.hid (tab_kept HT.out kn)
  replace kq := Lib.hid (kq.out.trans kn)
  clear kn
  go_wp2_with (first | rw [HNy2.out] | rw [hqbnu])
  refine (obj_c bE none 0 0 y2).mono ?_
  rintro e y3 ⟨rfl, kn⟩
  replace HT := Lib.hid (tab_kept HT.out kn)
  replace BNU := Lib.hid (BNU.out.kept kn)
  replace kq := Lib.hid (kq.out.trans kn)
  clear kn
  go_wp2_with (fail)
  refine (shows_k (objW bE) [(bx, -1), (by_, -1)] none 0 [] ta tcp y3 HT.out Row.nil (small1 (by decide)) (by decide) sh1).mono ?_
  rintro e y4 ⟨s1, s1c, rfl, hm, kn⟩
  have MS1 := Lib.hid hm
  clear hm
  replace HT := Lib.hid (tab_kept HT.out kn)
  replace BNU := Lib.hid (BNU.out.kept kn)
  replace kq := Lib.hid (kq.out.trans kn)
  clear kn
  obtain ⟨y5, hn⟩ : ∃ W, y4.alloc (.cells #[.string bx, .int .i64 (-1), .string by_, .int .i64 (-1)] tM) = W := ⟨_, rfl⟩
  have kn : Kept y4 y5 := by rw [← hn]; exact (Kept.refl _).alloc _
  obtain ⟨ma, hqma⟩ : ∃ q, y4.heap.size = q := ⟨_, rfl⟩
  have MA := Lib.hid (show MbsAt y5 (some ⟨ma, 0, none⟩) [(bx, -1), (by_, -1)] from mbs_lit2 (by rw [← hn, ← hqma]; exact Blk.new _ _ _))
  have HNy5 := Lib.hid hn
  clear hn
  replace HT := Lib.hid (tab_kept HT.out kn)
  replace BNU := Lib.hid (BNU.out.kept kn)
  replace MS1 := Lib.hid (MS1.out.kept kn)
  replace kq := Lib.hid (kq.out.trans kn)
  clear kn
  go_wp2_with (first | rw [HNy5.out] | rw [hqma])
  refine (sameM_y [(bx, -1), (by_, -1)] s1 (some ⟨ma, 0, none⟩) s1c 2 y5 MS1.out MA.out (by decide)).mono ?_
  rintro e y6 ⟨rfl, kn⟩
  replace HT := Lib.hid (tab_kept HT.out kn)
  replace BNU := Lib.hid (BNU.out.kept kn)
  replace MS1 := Lib.hid (MS1.out.kept kn)
  replace MA := Lib.hid (MA.out.kept kn)
  replace kq := Lib.hid (kq.out.trans kn)
  clear kn
  go_wp2_with (fail)
  refine (in_c bD 1 y6).mono ?_
  rintro e y7 ⟨rfl, kn⟩
  replace HT := Lib.hid (tab_kept HT.out kn)
  replace BNU := Lib.hid (BNU.out.kept kn)
  replace MS1 := Lib.hid (MS1.out.kept kn)
  replace MA := Lib.hid (MA.out.kept kn)
  replace kq := Lib.hid (kq.out.trans kn)
  clear kn
  obtain ⟨y8, hn⟩ : ∃ W, y7.alloc (.cells #[.bool false, .string bD, .int .i64 1] lT) = W := ⟨_, rfl⟩
  have kn : Kept y7 y8 := by rw [← hn]; exact (Kept.refl _).alloc _
  obtain ⟨la, hqla⟩ : ∃ q, y7.heap.size = q := ⟨_, rfl⟩
  have LA := Lib.hid (show LysAt y8 (.slice (some ⟨la, 0, none⟩) 1 1) [⟨false, bD, 1⟩] from lys_lit1 (by rw [← hn, ← hqla]; exact Blk.new _ _ _) (small1 (by decide)))
  have HNy8 := Lib.hid hn
  clear hn
  replace HT := Lib.hid (tab_kept HT.out kn)
  replace BNU := Lib.hid (BNU.out.kept kn)
  replace MS1 := Lib.hid (MS1.out.kept kn)
  replace MA := Lib.hid (MA.out.kept kn)
  replace kq := Lib.hid (kq.out.trans kn)
  clear kn
  go_wp2_with (first | rw [HNy8.out] | rw [hqla])
  refine (obj_c bE (some ⟨la, 0, none⟩) 1 1 y8).mono ?_
  rintro e y9 ⟨rfl, kn⟩
  replace HT := Lib.hid (tab_kept HT.out kn)
  replace BNU := Lib.hid (BNU.out.kept kn)
  replace MS1 := Lib.hid (MS1.out.kept kn)
  replace MA := Lib.hid (MA.out.kept kn)
  replace LA := Lib.hid (lys_kept LA.out kn)
  replace kq := Lib.hid (kq.out.trans kn)
  clear kn
  go_wp2_with (fail)
  refine (shows_k (objW bE) [(bx, -1)] (some ⟨la, 0, none⟩) 1 [⟨false, bD, 1⟩] ta tcp y9 HT.out LA.out (small1 (by decide)) (by decide) sh2).mono ?_
  rintro e y10 ⟨s2, s2c, rfl, hm, kn⟩
  have MS2 := Lib.hid hm
  clear hm
  replace HT := Lib.hid (tab_kept HT.out kn)
  replace BNU := Lib.hid (BNU.out.kept kn)
  replace MS1 := Lib.hid (MS1.out.kept kn)
  replace MA := Lib.hid (MA.out.kept kn)
  replace LA := Lib.hid (lys_kept LA.out kn)
  replace kq := Lib.hid (kq.out.trans kn)
  clear kn
  obtain ⟨y11, hn⟩ : ∃ W, y10.alloc (.cells #[.string bx, .int .i64 (-1)] tM) = W := ⟨_, rfl⟩
  have kn : Kept y10 y11 := by rw [← hn]; exact (Kept.refl _).alloc _
  obtain ⟨mb, hqmb⟩ : ∃ q, y10.heap.size = q := ⟨_, rfl⟩
  have MB := Lib.hid (show MbsAt y11 (some ⟨mb, 0, none⟩) [(bx, -1)] from mbs_lit1 (by rw [← hn, ← hqmb]; exact Blk.new _ _ _))
  have HNy11 := Lib.hid hn
  clear hn
  replace HT := Lib.hid (tab_kept HT.out kn)
  replace BNU := Lib.hid (BNU.out.kept kn)
  replace MS1 := Lib.hid (MS1.out.kept kn)
  replace MA := Lib.hid (MA.out.kept kn)
  replace LA := Lib.hid (lys_kept LA.out kn)
  replace MS2 := Lib.hid (MS2.out.kept kn)
  replace kq := Lib.hid (kq.out.trans kn)
  clear kn
  go_wp2_with (first | rw [HNy11.out] | rw [hqmb])
  refine (sameM_y [(bx, -1)] s2 (some ⟨mb, 0, none⟩) s2c 1 y11 MS2.out MB.out (by decide)).mono ?_
  rintro e y12 ⟨rfl, kn⟩
  replace HT := Lib.hid (tab_kept HT.out kn)
  replace BNU := Lib.hid (BNU.out.kept kn)
  replace MS1 := Lib.hid (MS1.out.kept kn)
  replace MA := Lib.hid (MA.out.kept kn)
  replace LA := Lib.hid (lys_kept LA.out kn)
  replace MS2 := Lib.hid (MS2.out.kept kn)
  replace MB := Lib.hid (MB.out.kept kn)
  replace kq := Lib.hid (kq.out.trans kn)
  clear kn
  go_wp2_with (fail)
  refine (three_c y12).mono ?_
  rintro e y13 ⟨rfl, kn⟩
  replace HT := Lib.hid (tab_kept HT.out kn)
  replace BNU := Lib.hid (BNU.out.kept kn)
  replace MS1 := Lib.hid (MS1.out.kept kn)
  replace MA := Lib.hid (MA.out.kept kn)
  replace LA := Lib.hid (lys_kept LA.out kn)
  replace MS2 := Lib.hid (MS2.out.kept kn)
  replace MB := Lib.hid (MB.out.kept kn)
  replace kq := Lib.hid (kq.out.trans kn)
  clear kn
  go_wp2_with (fail)
  refine (shows_k threeW [] none 0 [] ta tcp y13 HT.out Row.nil (small1 (by decide)) (by decide) sh3).mono ?_
  rintro e y14 ⟨s3, s3c, rfl, hm, kn⟩
  clear hm
  replace HT := Lib.hid (tab_kept HT.out kn)
  replace BNU := Lib.hid (BNU.out.kept kn)
  replace MS1 := Lib.hid (MS1.out.kept kn)
  replace MA := Lib.hid (MA.out.kept kn)
  replace LA := Lib.hid (lys_kept LA.out kn)
  replace MS2 := Lib.hid (MS2.out.kept kn)
  replace MB := Lib.hid (MB.out.kept kn)
  replace kq := Lib.hid (kq.out.trans kn)
  clear kn
  go_wp2_with (fail)
  refine (three_c y14).mono ?_
  rintro e y15 ⟨rfl, kn⟩
  replace HT := Lib.hid (tab_kept HT.out kn)
  replace BNU := Lib.hid (BNU.out.kept kn)
  replace MS1 := Lib.hid (MS1.out.kept kn)
  replace MA := Lib.hid (MA.out.kept kn)
  replace LA := Lib.hid (lys_kept LA.out kn)
  replace MS2 := Lib.hid (MS2.out.kept kn)
  replace MB := Lib.hid (MB.out.kept kn)
  replace kq := Lib.hid (kq.out.trans kn)
  clear kn
  go_wp2_with (fail)
  refine (three_c y15).mono ?_
  rintro e y16 ⟨rfl, kn⟩
  replace HT := Lib.hid (tab_kept HT.out kn)
  replace BNU := Lib.hid (BNU.out.kept kn)
  replace MS1 := Lib.hid (MS1.out.kept kn)
  replace MA := Lib.hid (MA.out.kept kn)
  replace LA := Lib.hid (lys_kept LA.out kn)
  replace MS2 := Lib.hid (MS2.out.kept kn)
  replace MB := Lib.hid (MB.out.kept kn)
  replace kq := Lib.hid (kq.out.trans kn)
  clear kn
  go_wp2_with (fail)
  refine (kc1 ▸ casts_c threeW none 0 [] bint bq 1 threeW none 0 [] 0 y16 (HTb.out.kept kq.out) Row.nil Row.nil (small1 (by decide)) (small1 (by decide)) (small1 (by decide)) (by decide)).mono ?_
  rintro e y17 ⟨rfl, kn⟩
  replace HT := Lib.hid (tab_kept HT.out kn)
  replace BNU := Lib.hid (BNU.out.kept kn)
  replace MS1 := Lib.hid (MS1.out.kept kn)
  replace MA := Lib.hid (MA.out.kept kn)
  replace LA := Lib.hid (lys_kept LA.out kn)
  replace MS2 := Lib.hid (MS2.out.kept kn)
  replace MB := Lib.hid (MB.out.kept kn)
  replace kq := Lib.hid (kq.out.trans kn)
  clear kn
  obtain ⟨⟨n0, n1, n2, n3, n4⟩, _⟩ := blk5u BNU.out
  go_wp2_with (fail)
  refine (kc2 ▸ casts_c nullW none 0 [] bq bD 3 nullW none 0 [] 0 y17 (HTb.out.kept kq.out) Row.nil Row.nil (small1 (by decide)) (small1 (by decide)) (small1 (by decide)) (by decide)).mono ?_
  rintro e y18 ⟨rfl, kn⟩
  replace HT := Lib.hid (tab_kept HT.out kn)
  replace BNU := Lib.hid (BNU.out.kept kn)
  replace MS1 := Lib.hid (MS1.out.kept kn)
  replace MA := Lib.hid (MA.out.kept kn)
  replace LA := Lib.hid (lys_kept LA.out kn)
  replace MS2 := Lib.hid (MS2.out.kept kn)
  replace MB := Lib.hid (MB.out.kept kn)
  replace kq := Lib.hid (kq.out.trans kn)
  clear kn
  clear n0 n1 n2 n3 n4
  go_wp2_with (fail)
  refine (obj_c bD none 0 0 y18).mono ?_
  rintro e y19 ⟨rfl, kn⟩
  replace HT := Lib.hid (tab_kept HT.out kn)
  replace BNU := Lib.hid (BNU.out.kept kn)
  replace MS1 := Lib.hid (MS1.out.kept kn)
  replace MA := Lib.hid (MA.out.kept kn)
  replace LA := Lib.hid (lys_kept LA.out kn)
  replace MS2 := Lib.hid (MS2.out.kept kn)
  replace MB := Lib.hid (MB.out.kept kn)
  replace kq := Lib.hid (kq.out.trans kn)
  clear kn
  go_wp2_with (fail)
  refine (ke1 ▸ enters_c (objW bD) none 0 [] bE 5 zW none 0 [] 5 y19 (HTb.out.kept kq.out) Row.nil Row.nil (small1 (by decide)) (small1 (by decide)) (by decide)).mono ?_
  rintro e y20 ⟨rfl, kn⟩
  replace HT := Lib.hid (tab_kept HT.out kn)
  replace BNU := Lib.hid (BNU.out.kept kn)
  replace MS1 := Lib.hid (MS1.out.kept kn)
  replace MA := Lib.hid (MA.out.kept kn)
  replace LA := Lib.hid (lys_kept LA.out kn)
  replace MS2 := Lib.hid (MS2.out.kept kn)
  replace MB := Lib.hid (MB.out.kept kn)
  replace kq := Lib.hid (kq.out.trans kn)
  clear kn
  go_wp2_with (fail)
  refine (three_c y20).mono ?_
  rintro e y21 ⟨rfl, kn⟩
  replace HT := Lib.hid (tab_kept HT.out kn)
  replace BNU := Lib.hid (BNU.out.kept kn)
  replace MS1 := Lib.hid (MS1.out.kept kn)
  replace MA := Lib.hid (MA.out.kept kn)
  replace LA := Lib.hid (lys_kept LA.out kn)
  replace MS2 := Lib.hid (MS2.out.kept kn)
  replace MB := Lib.hid (MB.out.kept kn)
  replace kq := Lib.hid (kq.out.trans kn)
  clear kn
  go_wp2_with (fail)
  refine (ke2 ▸ enters_c threeW none 0 [] bD (-4) zW none 0 [] (-4) y21 (HTb.out.kept kq.out) Row.nil Row.nil (small1 (by decide)) (small1 (by decide)) (by decide)).mono ?_
  rintro e y22 ⟨rfl, kn⟩
  replace HT := Lib.hid (tab_kept HT.out kn)
  replace BNU := Lib.hid (BNU.out.kept kn)
  replace MS1 := Lib.hid (MS1.out.kept kn)
  replace MA := Lib.hid (MA.out.kept kn)
  replace LA := Lib.hid (lys_kept LA.out kn)
  replace MS2 := Lib.hid (MS2.out.kept kn)
  replace MB := Lib.hid (MB.out.kept kn)
  replace kq := Lib.hid (kq.out.trans kn)
  clear kn
  go_wp2_with (fail)
  refine (three_c y22).mono ?_
  rintro e y23 ⟨rfl, kn⟩
  replace HT := Lib.hid (tab_kept HT.out kn)
  replace BNU := Lib.hid (BNU.out.kept kn)
  replace MS1 := Lib.hid (MS1.out.kept kn)
  replace MA := Lib.hid (MA.out.kept kn)
  replace LA := Lib.hid (lys_kept LA.out kn)
  replace MS2 := Lib.hid (MS2.out.kept kn)
  replace MB := Lib.hid (MB.out.kept kn)
  replace kq := Lib.hid (kq.out.trans kn)
  clear kn
  go_wp2_with (fail)
  refine (oleave_c false threeW none 0 [] ta tcp someT bD 1 y23 HT.out some_small (HTb.out.kept kq.out) Row.nil (small1 (by decide)) (small1 (by decide)) (by decide)).mono ?_
  rintro e y24 ⟨kn, hlv⟩
  rw [kl1] at hlv
  obtain ⟨lva, lvc, rfl, hlr, _⟩ := hlv
  have LV := Lib.hid (owns_lys hlr (by simp))
  clear hlr
  replace HT := Lib.hid (tab_kept HT.out kn)
  replace BNU := Lib.hid (BNU.out.kept kn)
  replace MS1 := Lib.hid (MS1.out.kept kn)
  replace MA := Lib.hid (MA.out.kept kn)
  replace LA := Lib.hid (lys_kept LA.out kn)
  replace MS2 := Lib.hid (MS2.out.kept kn)
  replace MB := Lib.hid (MB.out.kept kn)
  replace kq := Lib.hid (kq.out.trans kn)
  clear kn
  go_wp2_with (fail)
  refine (three_c y24).mono ?_
  rintro e y25 ⟨rfl, kn⟩
  replace HT := Lib.hid (tab_kept HT.out kn)
  replace BNU := Lib.hid (BNU.out.kept kn)
  replace MS1 := Lib.hid (MS1.out.kept kn)
  replace MA := Lib.hid (MA.out.kept kn)
  replace LA := Lib.hid (lys_kept LA.out kn)
  replace MS2 := Lib.hid (MS2.out.kept kn)
  replace MB := Lib.hid (MB.out.kept kn)
  replace LV := Lib.hid (lys_kept LV.out kn)
  replace kq := Lib.hid (kq.out.trans kn)
  clear kn
  go_wp2_with (fail)
  refine (sameV_y threeW [] lva none lvc 0 y25 LV.out Row.nil).mono ?_
  rintro e y26 ⟨rfl, kn⟩
  replace HT := Lib.hid (tab_kept HT.out kn)
  replace BNU := Lib.hid (BNU.out.kept kn)
  replace MS1 := Lib.hid (MS1.out.kept kn)
  replace MA := Lib.hid (MA.out.kept kn)
  replace LA := Lib.hid (lys_kept LA.out kn)
  replace MS2 := Lib.hid (MS2.out.kept kn)
  replace MB := Lib.hid (MB.out.kept kn)
  replace LV := Lib.hid (lys_kept LV.out kn)
  replace kq := Lib.hid (kq.out.trans kn)
  clear kn
  go_wp2_with (fail)
  refine (in_c bC (-1) y26).mono ?_
  rintro e y27 ⟨rfl, kn⟩
  replace HT := Lib.hid (tab_kept HT.out kn)
  replace BNU := Lib.hid (BNU.out.kept kn)
  replace MS1 := Lib.hid (MS1.out.kept kn)
  replace MA := Lib.hid (MA.out.kept kn)
  replace LA := Lib.hid (lys_kept LA.out kn)
  replace MS2 := Lib.hid (MS2.out.kept kn)
  replace MB := Lib.hid (MB.out.kept kn)
  replace LV := Lib.hid (lys_kept LV.out kn)
  replace kq := Lib.hid (kq.out.trans kn)
  clear kn
  go_wp2_with (fail)
  refine (out_cc bC 1 y27).mono ?_
  rintro e y28 ⟨rfl, kn⟩
  replace HT := Lib.hid (tab_kept HT.out kn)
  replace BNU := Lib.hid (BNU.out.kept kn)
  replace MS1 := Lib.hid (MS1.out.kept kn)
  replace MA := Lib.hid (MA.out.kept kn)
  replace LA := Lib.hid (lys_kept LA.out kn)
  replace MS2 := Lib.hid (MS2.out.kept kn)
  replace MB := Lib.hid (MB.out.kept kn)
  replace LV := Lib.hid (lys_kept LV.out kn)
  replace kq := Lib.hid (kq.out.trans kn)
  clear kn
  obtain ⟨y29, hn⟩ : ∃ W, y28.alloc (.cells #[.bool false, .string bC, .int .i64 (-1), .bool true, .string bC, .int .i64 1] lT) = W := ⟨_, rfl⟩
  have kn : Kept y28 y29 := by rw [← hn]; exact (Kept.refl _).alloc _
  obtain ⟨lc, hqlc⟩ : ∃ q, y28.heap.size = q := ⟨_, rfl⟩
  have LC := Lib.hid (show LysAt y29 (.slice (some ⟨lc, 0, none⟩) cL.length 2) cL from lys_lit2 (by rw [← hn, ← hqlc]; exact Blk.new _ _ _) (small1 (by decide)) (small1 (by decide)))
  have HNy29 := Lib.hid hn
  clear hn
  replace HT := Lib.hid (tab_kept HT.out kn)
  replace BNU := Lib.hid (BNU.out.kept kn)
  replace MS1 := Lib.hid (MS1.out.kept kn)
  replace MA := Lib.hid (MA.out.kept kn)
  replace LA := Lib.hid (lys_kept LA.out kn)
  replace MS2 := Lib.hid (MS2.out.kept kn)
  replace MB := Lib.hid (MB.out.kept kn)
  replace LV := Lib.hid (lys_kept LV.out kn)
  replace kq := Lib.hid (kq.out.trans kn)
  clear kn
  go_wp2_with (first | rw [HNy29.out] | rw [hqlc])
  refine (obj_c bC (some ⟨lc, 0, none⟩) 2 2 y29).mono ?_
  rintro e y30 ⟨rfl, kn⟩
  replace HT := Lib.hid (tab_kept HT.out kn)
  replace BNU := Lib.hid (BNU.out.kept kn)
  replace MS1 := Lib.hid (MS1.out.kept kn)
  replace MA := Lib.hid (MA.out.kept kn)
  replace LA := Lib.hid (lys_kept LA.out kn)
  replace MS2 := Lib.hid (MS2.out.kept kn)
  replace MB := Lib.hid (MB.out.kept kn)
  replace LV := Lib.hid (lys_kept LV.out kn)
  replace LC := Lib.hid (lys_kept LC.out kn)
  replace kq := Lib.hid (kq.out.trans kn)
  clear kn
  go_wp2_with (fail)
  refine (three_c y30).mono ?_
  rintro e y31 ⟨rfl, kn⟩
  replace HT := Lib.hid (tab_kept HT.out kn)
  replace BNU := Lib.hid (BNU.out.kept kn)
  replace MS1 := Lib.hid (MS1.out.kept kn)
  replace MA := Lib.hid (MA.out.kept kn)
  replace LA := Lib.hid (lys_kept LA.out kn)
  replace MS2 := Lib.hid (MS2.out.kept kn)
  replace MB := Lib.hid (MB.out.kept kn)
  replace LV := Lib.hid (lys_kept LV.out kn)
  replace LC := Lib.hid (lys_kept LC.out kn)
  replace kq := Lib.hid (kq.out.trans kn)
  clear kn
  go_wp2_with (fail)
  refine (ki_c ta tcp lc y31 HT.out (HTb.out.kept kq.out) LC.out).mono ?_
  rintro e y32 ⟨xa, xc, rfl, hly, kn⟩
  have LX := Lib.hid hly
  clear hly
  replace HT := Lib.hid (tab_kept HT.out kn)
  replace BNU := Lib.hid (BNU.out.kept kn)
  replace MS1 := Lib.hid (MS1.out.kept kn)
  replace MA := Lib.hid (MA.out.kept kn)
  replace LA := Lib.hid (lys_kept LA.out kn)
  replace MS2 := Lib.hid (MS2.out.kept kn)
  replace MB := Lib.hid (MB.out.kept kn)
  replace LV := Lib.hid (lys_kept LV.out kn)
  replace LC := Lib.hid (lys_kept LC.out kn)
  replace kq := Lib.hid (kq.out.trans kn)
  clear kn
  obtain ⟨y33, hn⟩ : ∃ W, y32.alloc (.cells #[.int .i64 1, .int .i64 3, .int .u64 0, .string e0w, .slice xa 0 xc] uT) = W := ⟨_, rfl⟩
  have kn : Kept y32 y33 := by rw [← hn]; exact (Kept.refl _).alloc _
  obtain ⟨bx1, hqbx⟩ : ∃ q, y32.heap.size = q := ⟨_, rfl⟩
  have BX := Lib.hid (show Blk y33 bx1 uT #[.int .i64 1, .int .i64 3, .int .u64 0, .string e0w, .slice xa 0 xc] from (by rw [← hn, ← hqbx]; exact Blk.new _ _ _))
  have HNy33 := Lib.hid hn
  clear hn
  replace HT := Lib.hid (tab_kept HT.out kn)
  replace BNU := Lib.hid (BNU.out.kept kn)
  replace MS1 := Lib.hid (MS1.out.kept kn)
  replace MA := Lib.hid (MA.out.kept kn)
  replace LA := Lib.hid (lys_kept LA.out kn)
  replace MS2 := Lib.hid (MS2.out.kept kn)
  replace MB := Lib.hid (MB.out.kept kn)
  replace LV := Lib.hid (lys_kept LV.out kn)
  replace LC := Lib.hid (lys_kept LC.out kn)
  replace LX := Lib.hid (lys_kept LX.out kn)
  replace kq := Lib.hid (kq.out.trans kn)
  clear kn
  go_wp2_with (first | rw [HNy33.out] | rw [hqbx])
  obtain ⟨E, hE⟩ : ∃ E, y33.drew = E := ⟨_, rfl⟩
  have kE : Kept y33 E := by rw [← hE]; exact (Kept.refl _).drew
  replace BX := Lib.hid (BX.out.kept kE)
  replace LX := Lib.hid (lys_kept LX.out kE)
  replace kq := Lib.hid (kq.out.trans kE)
  clear kE
  obtain ⟨⟨g0, g1, g2, g3, g4⟩, _⟩ := blk5u BX.out
  have hS5 := fun W (k : Kept E W) => And.intro (k.cell g0) (And.intro (k.cell g1) (And.intro (k.cell g2) (And.intro (k.cell g3) (k.cell g4))))
  refine wp_region_held_drew (S := (fun W => W.cell? ⟨bx1, 0, none⟩ = some (.int .i64 1) ∧ W.cell? ⟨bx1, 1, none⟩ = some (.int .i64 3) ∧ W.cell? ⟨bx1, 2, none⟩ = some (.int .u64 0) ∧ W.cell? ⟨bx1, 3, none⟩ = some (.string e0w) ∧ W.cell? ⟨bx1, 4, none⟩ = some (.slice xa 0 xc))) (by kernel_rfl) (by rw [hE]; exact hS5 E (Kept.refl _)) (fun hHeld0 => ?_)
  rw [hE] at hHeld0 ⊢
  clear hE
  have kr : Kept E E := Kept.refl _
  refine wpAnyH_ready (rs := [0]) (by kernel_rfl) (by simp) ?_
  refine AllReadyH.cons rfl (fun K hK => ?_) AllReadyH.nil
  go_simp
  refine (awake_c E (HTb.out.kept kq.out)).mono ?_
  rintro e z1 ⟨rfl, kn⟩
  replace kr := kr.trans kn
  clear kn
  refine hK.out _ _ (hS5 _ kr) (fun hHeld1 => ?_)
  clear hK K
  (try simp only [Act.put, List.getElem_toArray, List.getElem_cons_zero, List.getElem_cons_succ, List.setIfInBounds_toArray, List.set_cons_zero, List.set_cons_succ])
  refine wpAnyH_take (i := 1) (v := ?_) rfl (by kernel_rfl) (by kernel_rfl) (by kernel_rfl) (fun _ _ _ h => h) (Or.inl ⟨by kernel_rfl, ?_⟩) (by assumption) ?_
  rotate_left
  · intro w hSw; (try dsimp only at hSw); go_simp; (try with_reducible rfl)
  (try simp only [Act.put, List.getElem_toArray, List.getElem_cons_zero, List.getElem_cons_succ, List.setIfInBounds_toArray, List.set_cons_zero, List.set_cons_succ])
  refine wpAnyH_take (i := 2) (v := ?_) rfl (by kernel_rfl) (by kernel_rfl) (by kernel_rfl) (fun _ _ _ h => h) (Or.inl ⟨by kernel_rfl, ?_⟩) (by assumption) ?_
  rotate_left
  · intro w hSw; (try dsimp only at hSw); go_simp; (try with_reducible rfl)
  (try simp only [Act.put, List.getElem_toArray, List.getElem_cons_zero, List.getElem_cons_succ, List.setIfInBounds_toArray, List.set_cons_zero, List.set_cons_succ])
  refine wpAnyH_take (i := 3) (v := ?_) rfl (by kernel_rfl) (by kernel_rfl) (by kernel_rfl) (fun _ _ _ h => h) (Or.inl ⟨by kernel_rfl, ?_⟩) (by assumption) ?_
  rotate_left
  · intro w hSw; (try dsimp only at hSw); go_simp; (try with_reducible rfl)
  (try simp only [Act.put, List.getElem_toArray, List.getElem_cons_zero, List.getElem_cons_succ, List.setIfInBounds_toArray, List.set_cons_zero, List.set_cons_succ])
  refine wpAnyH_take (i := 4) (v := ?_) rfl (by kernel_rfl) (by kernel_rfl) (by kernel_rfl) (fun _ _ _ h => h) (Or.inl ⟨by kernel_rfl, ?_⟩) (by assumption) ?_
  rotate_left
  · intro w hSw; (try dsimp only at hSw); go_simp; (try with_reducible rfl)
  (try simp only [Act.put, List.getElem_toArray, List.getElem_cons_zero, List.getElem_cons_succ, List.setIfInBounds_toArray, List.set_cons_zero, List.set_cons_succ])
  refine wpAnyH_take (i := 5) (v := ?_) rfl (by kernel_rfl) (by kernel_rfl) (by kernel_rfl) (fun _ _ _ h => h) (Or.inl ⟨by kernel_rfl, ?_⟩) (by assumption) ?_
  rotate_left
  · intro w hSw; (try dsimp only at hSw); go_simp; (try with_reducible rfl)
  (try simp only [Act.put, List.getElem_toArray, List.getElem_cons_zero, List.getElem_cons_succ, List.setIfInBounds_toArray, List.set_cons_zero, List.set_cons_succ])
  refine wpAnyH_take (i := 6) (v := ?_) rfl (by kernel_rfl) (by kernel_rfl) (by kernel_rfl) (fun _ _ _ h => h) (Or.inl ⟨by kernel_rfl, ?_⟩) (by assumption) ?_
  rotate_left
  · intro w hSw; (try dsimp only at hSw); go_simp; (try with_reducible rfl)
  (try simp only [Act.put, List.getElem_toArray, List.getElem_cons_zero, List.getElem_cons_succ, List.setIfInBounds_toArray, List.set_cons_zero, List.set_cons_succ])
  refine wpAnyH_take (i := 7) (v := ?_) rfl (by kernel_rfl) (by kernel_rfl) (by kernel_rfl) (fun _ _ _ h => h) (Or.inl ⟨by kernel_rfl, ?_⟩) (by assumption) ?_
  rotate_left
  · intro w hSw; (try dsimp only at hSw); go_simp; (try with_reducible rfl)
  (try simp only [Act.put, List.getElem_toArray, List.getElem_cons_zero, List.getElem_cons_succ, List.setIfInBounds_toArray, List.set_cons_zero, List.set_cons_succ])
  refine wpAnyH_take (i := 8) (v := ?_) rfl (by kernel_rfl) (by kernel_rfl) (by kernel_rfl) (fun _ _ _ h => h) (Or.inl ⟨by kernel_rfl, ?_⟩) (by assumption) ?_
  rotate_left
  · intro w hSw; (try dsimp only at hSw); go_simp; (try with_reducible rfl)
  (try simp only [Act.put, List.getElem_toArray, List.getElem_cons_zero, List.getElem_cons_succ, List.setIfInBounds_toArray, List.set_cons_zero, List.set_cons_succ])
  refine wpAnyH_take (i := 9) (v := ?_) rfl (by kernel_rfl) (by kernel_rfl) (by kernel_rfl) (fun _ _ _ h => h) (Or.inl ⟨by kernel_rfl, ?_⟩) (by assumption) ?_
  rotate_left
  · intro w hSw; (try dsimp only at hSw); go_simp; (try with_reducible rfl)
  (try simp only [Act.put, List.getElem_toArray, List.getElem_cons_zero, List.getElem_cons_succ, List.setIfInBounds_toArray, List.set_cons_zero, List.set_cons_succ])
  refine wpAnyH_take (i := 10) (v := ?_) rfl (by kernel_rfl) (by kernel_rfl) (by kernel_rfl) (fun _ _ _ h => h) (Or.inl ⟨by kernel_rfl, ?_⟩) (by assumption) ?_
  rotate_left
  · intro w hSw; (try dsimp only at hSw); go_simp; (try with_reducible rfl)
  (try simp only [Act.put, List.getElem_toArray, List.getElem_cons_zero, List.getElem_cons_succ, List.setIfInBounds_toArray, List.set_cons_zero, List.set_cons_succ])
  refine wpAnyH_take (i := 11) (v := ?_) rfl (by kernel_rfl) (by kernel_rfl) (by kernel_rfl) (fun _ _ _ h => h) (Or.inl ⟨by kernel_rfl, ?_⟩) (by assumption) ?_
  rotate_left
  · intro w hSw; (try dsimp only at hSw); go_simp; (try with_reducible rfl)
  (try simp only [Act.put, List.getElem_toArray, List.getElem_cons_zero, List.getElem_cons_succ, List.setIfInBounds_toArray, List.set_cons_zero, List.set_cons_succ])
  refine wpAnyH_take (i := 12) (v := ?_) rfl (by kernel_rfl) (by kernel_rfl) (by kernel_rfl) (fun _ _ _ h => h) (Or.inl ⟨by kernel_rfl, ?_⟩) (by assumption) ?_
  rotate_left
  · intro w hSw; (try dsimp only at hSw); go_simp; (try with_reducible rfl)
  (try simp only [Act.put, List.getElem_toArray, List.getElem_cons_zero, List.getElem_cons_succ, List.setIfInBounds_toArray, List.set_cons_zero, List.set_cons_succ])
  refine wpAnyH_ready (rs := [13]) (by kernel_rfl) (by simp) ?_
  refine AllReadyH.cons rfl (fun K hK => ?_) AllReadyH.nil
  go_simp
  refine (three_c z1).mono ?_
  rintro e z2 ⟨rfl, kn⟩
  replace kr := kr.trans kn
  clear kn
  refine hK.out _ _ (hS5 _ kr) (fun hHeld2 => ?_)
  clear hK K
  (try simp only [Act.put, List.getElem_toArray, List.getElem_cons_zero, List.getElem_cons_succ, List.setIfInBounds_toArray, List.set_cons_zero, List.set_cons_succ])
  refine wpAnyH_ready (rs := [14]) (by kernel_rfl) (by simp) ?_
  refine AllReadyH.cons rfl (fun K hK => ?_) AllReadyH.nil
  go_simp
  refine (sameV_y threeW [] xa none xc 0 z2 (lys_kept LX.out kr) Row.nil).mono ?_
  rintro e z3 ⟨rfl, kn⟩
  replace kr := kr.trans kn
  clear kn
  refine hK.out _ _ (hS5 _ kr) (fun hHeld3 => ?_)
  clear hK K
  (try simp only [Act.put, List.getElem_toArray, List.getElem_cons_zero, List.getElem_cons_succ, List.setIfInBounds_toArray, List.set_cons_zero, List.set_cons_succ])
  refine wpAnyH_take (i := 15) (v := ?_) rfl (by kernel_rfl) (by kernel_rfl) (by kernel_rfl) (fun _ _ _ h => h) (Or.inl ⟨by kernel_rfl, ?_⟩) (by assumption) ?_
  rotate_left
  · intro w hSw; (try dsimp only at hSw); go_simp; (try with_reducible rfl)
  (try simp only [Act.put, List.getElem_toArray, List.getElem_cons_zero, List.getElem_cons_succ, List.setIfInBounds_toArray, List.set_cons_zero, List.set_cons_succ])
  refine wpAnyH_take (i := 16) (v := ?_) rfl (by kernel_rfl) (by kernel_rfl) (by kernel_rfl) (fun _ _ _ h => h) (Or.inl ⟨by kernel_rfl, ?_⟩) (by assumption) ?_
  rotate_left
  · intro w hSw; (try dsimp only at hSw); go_simp; (try with_reducible rfl)
  (try simp only [Act.put, List.getElem_toArray, List.getElem_cons_zero, List.getElem_cons_succ, List.setIfInBounds_toArray, List.set_cons_zero, List.set_cons_succ])
  refine wpAnyH_done (by kernel_rfl) ?_ _
  go_wp2_with fail
  go_ret
  exact ⟨rfl, kq.out.trans kr⟩
end Go.Proofs.YtdceafncncgfbaaDoor

/- Plain: what passes through a chain and through its norm comes to the same. -/
set_option linter.unusedSimpArgs false
set_option linter.unusedVariables false
set_option linter.unusedSectionVars false
namespace Go.Proofs.YtdceafncncgfbaaDoor
open Go.ChangeShapes Go.WideShapes Go.ChangeAt Go.RowKit Go.Shelf

namespace Chn
section
variable {α β κ : Type} [DecidableEq κ]
def fm (f : α → Option β) : List Bool → List α → List Bool
  | b :: bs, x :: r => match f x with
    | some _ => b :: fm f bs r
    | none => fm f bs r
  | _, _ => []
theorem fm_some {f : α → Option β} {b : Bool} {bs : List Bool} {x : α} {r : List α} {y : β} (h : f x = some y) : fm f (b :: bs) (x :: r) = b :: fm f bs r := by rw [fm, h]
theorem fm_none {f : α → Option β} {b : Bool} {bs : List Bool} {x : α} {r : List α} (h : f x = none) : fm f (b :: bs) (x :: r) = fm f bs r := by rw [fm, h]
theorem pick_fm (f : α → Option β) : ∀ (K : List Bool) (l : List α), pick (fm f K l) (l.filterMap f) = (pick K l).filterMap f
  | [], l => by
    cases l <;> simp [fm, pick]
  | _ :: _, [] => by simp [fm, pick]
  | b :: bs, x :: r => by
    have ih := pick_fm f bs r
    cases h : f x with
    | none =>
      rw [fm_none h, List.filterMap_cons_none h, ih]
      cases b <;> simp [pick, h]
    | some y =>
      rw [fm_some h, List.filterMap_cons_some h]
      cases b <;> simp [pick, h, ih]
theorem fm_len (f : α → Option β) : ∀ (K : List Bool) (l : List α), K.length = l.length → (fm f K l).length = (l.filterMap f).length
  | [], [], _ => rfl
  | b :: bs, x :: r, hl => by
    have ih := fm_len f bs r (by simpa using hl)
    cases h : f x with
    | none => rw [fm_none h, List.filterMap_cons_none h, ih]
    | some y => rw [fm_some h, List.filterMap_cons_some h, List.length_cons, List.length_cons, ih]
  | [], _ :: _, h => by cases h
  | _ :: _, [], h => by cases h
theorem fm_ov (f : α → Option β) : ∀ {K K' : List Bool} (l : List α), Ov K K' → Ov (fm f K l) (fm f K' l)
  | [], [], _, _ => by simp [fm, Ov]
  | b :: bs, c :: cs, [], _ => by simp [fm, Ov]
  | b :: bs, c :: cs, x :: r, h => by
    cases hf : f x with
    | none => rw [fm_none hf, fm_none hf]; exact fm_ov f r h.2
    | some y => rw [fm_some hf, fm_some hf]; exact ⟨h.1, fm_ov f r h.2⟩
  | [], _ :: _, _, h => h.elim
  | _ :: _, [], _, h => h.elim
theorem fm_app (f : α → Option β) : ∀ {K K' : List Bool} {l l' : List α}, K.length = l.length → fm f (K ++ K') (l ++ l') = fm f K l ++ fm f K' l'
  | [], _, [], _, _ => by simp [fm]
  | b :: bs, _, x :: r, _, hl => by
    simp only [List.cons_append]
    cases hf : f x with
    | none => rw [fm_none hf, fm_none hf]; exact fm_app f (by simpa using hl)
    | some y => rw [fm_some hf, fm_some hf, List.cons_append, fm_app f (by simpa using hl)]
  | [], _, _ :: _, _, h => by cases h
  | _ :: _, _, [], _, h => by cases h
theorem fm_one (f : α → Option β) (b : Bool) (x : α) : fm f [b] [x] = (fm f [b] [x]).reverse := by
  cases hf : f x with
  | none => rw [fm_none hf]; cases hr : fm f ([] : List Bool) ([] : List α) <;> simp [fm] at hr ⊢
  | some y => rw [fm_some hf]; simp [fm]
theorem fm_rev (f : α → Option β) : ∀ (K : List Bool) (l : List α), K.length = l.length → fm f K.reverse l.reverse = (fm f K l).reverse
  | [], [], _ => by simp [fm]
  | b :: bs, x :: r, hl => by
    have hl' : bs.length = r.length := by simpa using hl
    rw [List.reverse_cons, List.reverse_cons, fm_app f (by simpa using hl), fm_rev f bs r hl']
    have e : fm f (b :: bs) (x :: r) = fm f [b] [x] ++ fm f bs r := fm_app (K := [b]) (l := [x]) f rfl
    rw [e, List.reverse_append, ← fm_one]
  | [], _ :: _, h => by cases h
  | _ :: _, [], h => by cases h
theorem fk_fmap (k : α → κ) (k' : β → κ) (f : α → Option β) (g : κ → Option κ) (hg : ∀ x, (f x).map k' = g (k x)) : ∀ {s d s' d' : List κ} (l : List α), (∀ x ∈ s, ∀ y, g x = some y → y ∈ s') → (∀ x ∈ d, ∀ y, g x = some y → y ∈ d') → (∀ x ∈ d, x ∈ s) → Ov (fk k' s' d' (l.filterMap f)) (fm f (fk k s d l) l)
  | s, d, s', d', [], _, _, _ => by simp [fk, fm, Ov]
  | s, d, s', d', x :: r, hs, hd, hds => by
    cases hf : f x with
    | none =>
      have hgx : g (k x) = none := by rw [← hg, hf]; rfl
      rw [List.filterMap_cons_none hf]
      rw [show fk k s d (x :: r) = (if k x ∈ s then (if k x ∈ d then false :: fk k s d r else true :: fk k s (k x :: d) r) else true :: fk k (k x :: s) [k x] r) from by rw [fk]]
      split
      · rename_i h1
        split
        · rw [fm_none hf]; exact fk_fmap k k' f g hg r hs hd hds
        · rw [fm_none hf]
          refine fk_fmap k k' f g hg r hs (fun y hy z hz => ?_) (fun y hy => (List.mem_cons.1 hy).elim (fun e => e ▸ h1) (hds y))
          rcases List.mem_cons.1 hy with rfl | hy
          · rw [hgx] at hz; cases hz
          · exact hd y hy z hz
      · rw [fm_none hf]
        refine fk_fmap k k' f g hg r (fun y hy z hz => ?_) (fun y hy z hz => ?_) (fun y hy => by simp at hy; subst hy; simp)
        · rcases List.mem_cons.1 hy with rfl | hy
          · rw [hgx] at hz; cases hz
          · exact hs y hy z hz
        · simp at hy; subst hy; rw [hgx] at hz; cases hz
    | some y =>
      have hgx : g (k x) = some (k' y) := by rw [← hg, hf]; rfl
      rw [List.filterMap_cons_some hf]
      unfold fk
      by_cases h1 : k x ∈ s
      · have h1' := hs _ h1 _ hgx
        by_cases h2 : k x ∈ d
        · have h2' := hd _ h2 _ hgx
          rw [if_pos h1, if_pos h2, if_pos h1', if_pos h2', fm_some hf]
          exact ⟨id, fk_fmap k k' f g hg r hs hd hds⟩
        · rw [if_pos h1, if_neg h2, if_pos h1', fm_some hf]
          have hds' : ∀ z ∈ k x :: d, z ∈ s := fun z hz => (List.mem_cons.1 hz).elim (fun e => e ▸ h1) (hds z)
          split
          · rename_i h2'
            refine ⟨fun _ => rfl, fk_fmap k k' f g hg r hs (fun z hz u hu => ?_) hds'⟩
            rcases List.mem_cons.1 hz with rfl | hz
            · rw [hgx] at hu; injection hu with hu; exact hu ▸ h2'
            · exact hd z hz u hu
          · refine ⟨fun _ => rfl, fk_fmap k k' f g hg r hs (fun z hz u hu => ?_) hds'⟩
            rcases List.mem_cons.1 hz with rfl | hz
            · rw [hgx] at hu; injection hu with hu; simp [hu]
            · exact List.mem_cons_of_mem _ (hd z hz u hu)
      · rw [if_neg h1, fm_some hf]
        have hds' : ∀ z ∈ [k x], z ∈ k x :: s := fun z hz => by simp at hz; subst hz; simp
        split
        · rename_i h1'
          have hs' : ∀ z ∈ k x :: s, ∀ u, g z = some u → u ∈ s' := fun z hz u hu => by
            rcases List.mem_cons.1 hz with rfl | hz
            · rw [hgx] at hu; injection hu with hu; exact hu ▸ h1'
            · exact hs z hz u hu
          split
          · rename_i h2'
            refine ⟨fun _ => rfl, fk_fmap k k' f g hg r hs' (fun z hz u hu => ?_) hds'⟩
            simp at hz; subst hz; rw [hgx] at hu; injection hu with hu; exact hu ▸ h2'
          · refine ⟨fun _ => rfl, fk_fmap k k' f g hg r hs' (fun z hz u hu => ?_) hds'⟩
            simp at hz; subst hz; rw [hgx] at hu; injection hu with hu; simp [hu]
        · refine ⟨fun _ => rfl, fk_fmap k k' f g hg r (fun z hz u hu => ?_) (fun z hz u hu => ?_) hds'⟩
          · rcases List.mem_cons.1 hz with rfl | hz
            · rw [hgx] at hu; injection hu with hu; simp [hu]
            · exact List.mem_cons_of_mem _ (hs z hz u hu)
          · simp at hz; subst hz; rw [hgx] at hu; injection hu with hu; simp [hu]
/-- What stands behind another chain, some of it left out, letters exchanged: only what is marked of it is. -/
theorem norm_fmap (k : α → κ) (f : α → Option α) (g : κ → Option κ) (hg : ∀ x, (f x).map k = g (k x)) (a l : List α) : norm k (a ++ (norm k l).filterMap f) = norm k (a ++ l.filterMap f) := by
  have hK : Ov (fl k (a ++ l.filterMap f)) (List.replicate a.length true ++ fm f (fl k l) l) := by
    unfold fl
    refine Ov.or ?_ ?_
    · obtain ⟨s, d, h⟩ := fk_app k [] [] a
      unfold fF
      rw [h]
      refine Ov.app ?_ ((fk_fmap k k f g hg l (by simp) (by simp) (by simp)).trans (fm_ov f l (ovF k l)))
      have := Ov.all (fk k [] [] a)
      rwa [fk_len] at this
    · unfold fB
      rw [List.reverse_append, ← List.filterMap_reverse]
      obtain ⟨s, d, h⟩ := fk_app k [] [] (l.reverse.filterMap f)
      rw [h, List.reverse_append]
      refine Ov.app ?_ ?_
      · have := (Ov.all (fk k s d a.reverse)).rev
        rw [replicate_rev, fk_len, List.length_reverse] at this
        exact this
      · have h1 := (fk_fmap k k f g hg l.reverse (s := []) (d := []) (s' := []) (d' := []) (by simp) (by simp) (by simp)).rev
        have h2 := fm_rev f (fk k [] [] l.reverse).reverse l (by simp [fk_len])
        rw [List.reverse_reverse] at h2
        rw [h2, List.reverse_reverse] at h1
        exact h1.trans (fm_ov f l (ovB k l))
  have := norm_pick k hK
  rw [pick_app (by simp), pick_all, pick_fm] at this
  exact this
theorem cls_mem (c : κ → β) [DecidableEq β] (k : α → κ) (b : β) : ∀ (l : List α) (acc : List β), b ∈ cls c k acc l ↔ b ∈ acc ∨ ∃ y ∈ l, c (k y) = b
  | [], acc => by simp [cls]
  | x :: r, acc => by
    unfold cls
    split
    · rename_i h
      rw [cls_mem c k b r]
      constructor
      · rintro (h | ⟨y, hy, e⟩)
        · exact .inl h
        · exact .inr ⟨y, by simp [hy], e⟩
      · rintro (h | ⟨y, hy, e⟩)
        · exact .inl h
        · rcases List.mem_cons.1 hy with rfl | hy
          · exact .inl (e ▸ h)
          · exact .inr ⟨y, hy, e⟩
    · rw [cls_mem c k b r]
      constructor
      · rintro (h | ⟨y, hy, e⟩)
        · rcases List.mem_append.1 h with h | h
          · exact .inl h
          · simp at h; exact .inr ⟨x, by simp, h.symm⟩
        · exact .inr ⟨y, by simp [hy], e⟩
      · rintro (h | ⟨y, hy, e⟩)
        · exact .inl (by simp [h])
        · rcases List.mem_cons.1 hy with rfl | hy
          · exact .inl (by simp [e])
          · exact .inr ⟨y, hy, e⟩
end
end Chn

namespace Co
/-- Two chains with the same classes. -/
def SC (l m : List Ly) : Prop := ∀ c, (∃ y ∈ l, y.cls = c) ↔ (∃ y ∈ m, y.cls = c)
theorem SC.refl (l : List Ly) : SC l l := fun _ => Iff.rfl
theorem SC.symm {l m : List Ly} (h : SC l m) : SC m l := fun c => (h c).symm
theorem SC.trans {l m n : List Ly} (h : SC l m) (g : SC m n) : SC l n := fun c => (h c).trans (g c)
theorem SC.app {l m e : List Ly} (h : SC l m) : SC (l ++ e) (m ++ e) := fun c => by
  have := h c
  constructor
  · rintro ⟨y, hy, hc⟩
    rcases List.mem_append.1 hy with hy | hy
    · obtain ⟨z, hz, hc⟩ := this.1 ⟨y, hy, hc⟩
      exact ⟨z, by simp [hz], hc⟩
    · exact ⟨y, by simp [hy], hc⟩
  · rintro ⟨y, hy, hc⟩
    rcases List.mem_append.1 hy with hy | hy
    · obtain ⟨z, hz, hc⟩ := this.2 ⟨y, hy, hc⟩
      exact ⟨z, by simp [hz], hc⟩
    · exact ⟨y, by simp [hy], hc⟩
theorem SC.more {l e : List Ly} (h : ∀ z ∈ e, ∃ y ∈ l, y.cls = z.cls) : SC l (l ++ e) := fun c => by
  constructor
  · rintro ⟨y, hy, hc⟩
    exact ⟨y, by simp [hy], hc⟩
  · rintro ⟨y, hy, hc⟩
    rcases List.mem_append.1 hy with hy | hy
    · exact ⟨y, hy, hc⟩
    · obtain ⟨z, hz, e⟩ := h y hy
      exact ⟨z, hz, e.trans hc⟩
theorem SC.norm (l : List Ly) : SC l (Chn.norm ky l) := fun c => by
  have h := Chn.cls_mem (fun q : Ltr => q.2) ky c l []
  have h2 := Chn.cls_mem (fun q : Ltr => q.2) ky c (Chn.norm ky l) []
  rw [Chn.cls_norm] at h2
  have := h.symm.trans h2
  simpa [ky] using this
theorem showsB_same {t : List Tab.C} {s : ByteArray} {l m : List Ly} (h : SC l m) (b : ByteArray) : showsB t s l b = showsB t s m b := by
  rw [Bool.eq_iff_iff]
  unfold showsB
  simp only [List.all_eq_true, Bool.and_eq_true, decide_eq_true_iff]
  constructor
  · intro hh q hq
    refine ⟨(hh q hq).1, fun y hy => ?_⟩
    obtain ⟨z, hz, e⟩ := (h y.cls).2 ⟨y, hy, rfl⟩
    exact e ▸ (hh q hq).2 z hz
  · intro hh q hq
    refine ⟨(hh q hq).1, fun y hy => ?_⟩
    obtain ⟨z, hz, e⟩ := (h y.cls).1 ⟨y, hy, rfl⟩
    exact e ▸ (hh q hq).2 z hz
theorem fitsB_same {t : List Tab.C} {x : Vw} {l m : List Ly} (h : SC l m) (b : ByteArray) : fitsB t x l b = fitsB t x m b := by
  unfold fitsB
  rw [showsB_same h]

def badK (t : List Tab.C) (x : Vw) (ty : ByteArray → Option ByteArray) (back : Bool) (l : List Ly) (k : Ltr) : Bool := match ty k.2 with
  | none => false
  | some s => !(k.1 == back) && !fitsB t x l s
def effK (x : Vw) (ty : ByteArray → Option ByteArray) (back : Bool) (k : Ltr) : Option Ltr := match ty k.2 with
  | none => none
  | some s => if x.tag = 7 ∧ Wrd.kind s = 3 then some (!(k.1 == back), s) else none
def effL (x : Vw) (ty : ByteArray → Option ByteArray) (back : Bool) (y : Ly) : Option Ly := (effK x ty back (ky y)).map fun q => ⟨q.1, q.2, y.lab⟩

section
variable {t : List Tab.C} {x : Vw} {ty : ByteArray → Option ByteArray} {back : Bool}
theorem effL_ky (y : Ly) : (effL x ty back y).map ky = effK x ty back (ky y) := by
  unfold effL
  cases effK x ty back (ky y) <;> rfl
theorem stepL_eq (l : List Ly) (y : Ly) : stepL t x ty back l y = if badK t x ty back l (ky y) = true then .error y.lab else .ok (l ++ (effL x ty back y).toList) := by
  unfold stepL badK effL effK wrapL ky
  cases ty y.cls with
  | none => simp
  | some s =>
    by_cases h : y.out = back
    · subst h
      by_cases hk : x.tag = 7 ∧ Wrd.kind s = 3 <;> simp [hk]
    · have hb : (y.out == back) = false := by simpa using h
      by_cases hf : fitsB t x l s = true <;> by_cases hk : x.tag = 7 ∧ Wrd.kind s = 3 <;> simp [h, hb, hf, hk]
theorem passL_cons (l : List Ly) (y : Ly) (r : List Ly) : passL t x ty back (y :: r) l = if badK t x ty back l (ky y) = true then .error y.lab else passL t x ty back r (l ++ (effL x ty back y).toList) := by
  rw [passL, stepL_eq]
  by_cases h : badK t x ty back l (ky y) = true
  · rw [if_pos h, if_pos h]
  · rw [if_neg h, if_neg h]
theorem bad_same {l m : List Ly} (h : SC l m) (k : Ltr) : badK t x ty back l k = badK t x ty back m k := by
  unfold badK
  cases ty k.2 with
  | none => rfl
  | some s => simp only [fitsB_same h]
theorem bad_self {l : List Ly} {y : Ly} (h : badK t x ty back l (ky y) = false) : badK t x ty back (l ++ (effL x ty back y).toList) (ky y) = false := by
  unfold badK at h ⊢
  unfold effL effK
  cases hs : ty (ky y).2 with
  | none => rfl
  | some s =>
    rw [hs] at h
    simp only [Bool.and_eq_false_iff, Bool.not_eq_false'] at h ⊢
    rcases h with h | h
    · exact .inl h
    · refine .inr ?_
      by_cases hk : x.tag = 7 ∧ Wrd.kind s = 3
      · rw [if_pos hk]
        have h1 : ¬ Wrd.kind s = 2 := by rw [hk.2]; decide
        have h2 : ¬ Wrd.kind s = 1 := by rw [hk.2]; decide
        unfold fitsB at h ⊢
        rw [if_neg h1, if_neg h2, if_pos hk.2] at h ⊢
        rw [Bool.or_eq_true] at h ⊢
        rcases h with h | h
        · exact .inl h
        · refine .inr ?_
          rw [Bool.and_eq_true] at h ⊢
          refine ⟨h.1, ?_⟩
          have h3 := h.2
          unfold showsB at h3 ⊢
          simp only [List.all_eq_true, Bool.and_eq_true, decide_eq_true_iff] at h3 ⊢
          intro q hq
          refine ⟨(h3 q hq).1, fun z hz => ?_⟩
          rcases List.mem_append.1 hz with hz | hz
          · exact (h3 q hq).2 z hz
          · simp at hz; subst hz; exact hq
      · rw [if_neg hk]; simpa using h
theorem fmap_cons (f : Ly → Option Ly) (y : Ly) (r l : List Ly) : l ++ (y :: r).filterMap f = (l ++ (f y).toList) ++ r.filterMap f := by
  cases h : f y with
  | none => rw [List.filterMap_cons_none h]; simp
  | some z => rw [List.filterMap_cons_some h]; simp
theorem eff_in {l : List Ly} {y : Ly} (h : ∀ q, effK x ty back (ky y) = some q → ∃ z ∈ l, z.cls = q.2) : SC l (l ++ (effL x ty back y).toList) := by
  refine SC.more fun z hz => ?_
  unfold effL at hz
  cases hq : effK x ty back (ky y) with
  | none => rw [hq] at hz; simp at hz
  | some q =>
    rw [hq] at hz
    simp at hz
    subst hz
    exact h q hq
theorem pass_pick : ∀ {s d : List Ltr} {l : List Ly} {K : List Bool} {C C' : List Ly}, Chn.Ov (Chn.fk ky s d l) K → (∀ k ∈ d, k ∈ s) → SC C C' → (∀ k ∈ s, ∀ q, effK x ty back k = some q → ∃ z ∈ C, z.cls = q.2) → (∀ k ∈ d, badK t x ty back C k = false) →
    (∃ q, passL t x ty back l C = .error q ∧ passL t x ty back (Chn.pick K l) C' = .error q) ∨ (passL t x ty back l C = .ok (C ++ l.filterMap (effL x ty back)) ∧ passL t x ty back (Chn.pick K l) C' = .ok (C' ++ (Chn.pick K l).filterMap (effL x ty back)))
  | s, d, [], K, C, C', h, _, _, _, _ => by
    right
    cases K <;> simp [Chn.pick, passL]
  | s, d, y :: r, [], C, C', h, _, _, _, _ => by
    have := h.len
    rw [Chn.fk_len] at this
    cases this
  | s, d, y :: r, kb :: bs, C, C', h, hds, hsc, hs, hd => by
    have hin : ∀ k ∈ ky y :: s, ∀ q, effK x ty back k = some q → ∃ z ∈ C ++ (effL x ty back y).toList, z.cls = q.2 := fun k hk q hq => by
      rcases List.mem_cons.1 hk with rfl | hk
      · refine ⟨⟨q.1, q.2, y.lab⟩, ?_, rfl⟩
        unfold effL
        rw [hq]
        simp
      · obtain ⟨z, hz, e⟩ := hs k hk q hq
        exact ⟨z, by simp [hz], e⟩
    unfold Chn.fk at h
    by_cases hb : badK t x ty back C (ky y) = true
    · have hnd : ¬ ky y ∈ d := fun hd' => by rw [hd _ hd'] at hb; cases hb
      have hkb : kb = true := by
        by_cases hx : ky y ∈ s
        · rw [if_pos hx, if_neg hnd] at h
          exact h.1 rfl
        · rw [if_neg hx] at h
          exact h.1 rfl
      subst hkb
      left
      refine ⟨y.lab, ?_, ?_⟩
      · rw [passL_cons, if_pos hb]
      · simp only [Chn.pick, if_true]
        rw [passL_cons, ← bad_same hsc, if_pos hb]
    · have hbf : badK t x ty back C (ky y) = false := by simpa using hb
      have hb' : ¬ badK t x ty back C' (ky y) = true := by rw [← bad_same hsc]; exact hb
      rw [passL_cons, if_neg hb, fmap_cons]
      by_cases hx : ky y ∈ s
      · have hC := eff_in (y := y) (fun q hq => hs _ hx q hq)
        by_cases hxd : ky y ∈ d
        · rw [if_pos hx, if_pos hxd] at h
          cases kb with
          | false =>
            simp only [Chn.pick, Bool.false_eq_true, if_false]
            exact pass_pick h.2 hds (hC.symm.trans hsc) (fun k hk => hin k (by simp [hk])) (fun k hk => by rw [← bad_same hC]; exact hd k hk)
          | true =>
            simp only [Chn.pick, if_true]
            rw [passL_cons, if_neg hb', fmap_cons]
            exact pass_pick h.2 hds hsc.app (fun k hk => hin k (by simp [hk])) (fun k hk => by rw [← bad_same hC]; exact hd k hk)
        · rw [if_pos hx, if_neg hxd] at h
          obtain rfl : kb = true := h.1 rfl
          simp only [Chn.pick, if_true]
          rw [passL_cons, if_neg hb', fmap_cons]
          refine pass_pick h.2 (fun k hk => (List.mem_cons.1 hk).elim (fun e => e ▸ hx) (hds k)) hsc.app (fun k hk => hin k (by simp [hk])) (fun k hk => ?_)
          rcases List.mem_cons.1 hk with rfl | hk
          · exact bad_self hbf
          · rw [← bad_same hC]; exact hd k hk
      · rw [if_neg hx] at h
        obtain rfl : kb = true := h.1 rfl
        simp only [Chn.pick, if_true]
        rw [passL_cons, if_neg hb', fmap_cons]
        refine pass_pick h.2 (fun k hk => by simp at hk; subst hk; simp) hsc.app hin (fun k hk => ?_)
        simp at hk; subst hk
        exact bad_self hbf
theorem pass_norm (M l : List Ly) : (∃ q, passL t x ty back M l = .error q ∧ passL t x ty back (Chn.norm ky M) (Chn.norm ky l) = .error q) ∨ (∃ e e', passL t x ty back M l = .ok (l ++ e) ∧ passL t x ty back (Chn.norm ky M) (Chn.norm ky l) = .ok (Chn.norm ky l ++ e') ∧ Chn.norm ky (Chn.norm ky l ++ e') = Chn.norm ky (l ++ e)) := by
  rcases pass_pick (t := t) (x := x) (ty := ty) (back := back) (s := []) (d := []) (Chn.ovF ky M) (by simp) (SC.norm l) (by simp) (by simp) with h | ⟨h1, h2⟩
  · exact .inl h
  · refine .inr ⟨_, _, h1, h2, ?_⟩
    rw [Chn.norm_left]
    exact Chn.norm_fmap ky (effL x ty back) (effK x ty back) effL_ky l M
theorem way_norm (L : List Ly) : wayY back (Chn.norm ky L) = Chn.norm ky (wayY back L) := by
  unfold wayY
  split
  · exact (Chn.norm_rev ky L).symm
  · rfl
theorem pass_lab : ∀ (L l : List Ly) (q : Int), passL t x ty back L l = .error q → ∃ y ∈ L, y.lab = q
  | [], l, q, h => by cases h
  | y :: r, l, q, h => by
    rw [passL_cons] at h
    split at h
    · injection h with h
      exact ⟨y, by simp, h⟩
    · obtain ⟨z, hz, e⟩ := pass_lab r _ q h
      exact ⟨z, by simp [hz], e⟩
theorem way_mem {L : List Ly} {y : Ly} (h : y ∈ wayY back L) : y ∈ L := by
  unfold wayY at h
  split at h
  · simpa using h
  · exact h
/-- Through a chain and through its norm, whole and merged. -/
theorem go_short (y : Vw) (L l : List Ly) : (∃ q, (∃ z ∈ L, z.lab = q) ∧ sent false l (goR t x ty back y L l) = .error q ∧ sent true (Chn.norm ky l) (goR t x ty back y (Chn.norm ky L) (Chn.norm ky l)) = .error q) ∨
    (∃ l1, sent false l (goR t x ty back y L l) = .ok l1 ∧ sent true (Chn.norm ky l) (goR t x ty back y (Chn.norm ky L) (Chn.norm ky l)) = .ok (Chn.norm ky l1)) := by
  unfold goR
  by_cases h7 : y.tag = 7
  · rw [if_pos h7, if_pos h7, way_norm]
    rcases pass_norm (t := t) (x := x) (ty := ty) (back := back) (wayY back L) l with ⟨q, h1, h2⟩ | ⟨e, e', h1, h2, h3⟩
    · obtain ⟨z, hz, hq⟩ := pass_lab _ _ _ h1
      exact .inl ⟨q, ⟨z, way_mem hz, hq⟩, by rw [h1]; rfl, by rw [h2]; rfl⟩
    · refine .inr ⟨l ++ e, by rw [h1]; simp [sent, sentP], ?_⟩
      rw [h2, sent, sentP]
      by_cases hl : (Chn.norm ky l).length < (Chn.norm ky l ++ e').length
      · rw [if_pos ⟨rfl, hl⟩, h3]
      · rw [if_neg (fun h => hl h.2)]
        have : e' = [] := by
          rw [List.length_append] at hl
          cases e' with
          | nil => rfl
          | cons a b => simp at hl
        subst this
        rw [List.append_nil] at h3 ⊢
        rw [Chn.norm_norm] at h3
        rw [h3]
  · rw [if_neg h7, if_neg h7]
    refine .inr ⟨l, by simp [sent, sentP], ?_⟩
    simp [sent, sentP]
end
end Co
end Go.Proofs.YtdceafncncgfbaaDoor

/- CoerceShort's helpers: short, alike, unlabelled, LongValue. -/
set_option linter.unusedSimpArgs false
set_option linter.unusedVariables false
set_option maxRecDepth 100000
namespace Go.Proofs.YtdceafncncgfbaaDoor
open Go.ChangeShapes Go.WideShapes Go.ChangeAt Go.RowKit Go.Shelf
attribute [local go_sem] Oper.semAt_some

def ShortPost (x : Vw) (l : List Ly) (w : World) (e : Ending) (w' : World) : Prop := ∃ ca cc, e = .returned (vV x (.slice ca (Chn.norm ky l).length cc)) ∧ LysAt w' (.slice ca (Chn.norm ky l).length cc) (Chn.norm ky l) ∧ Kept w w'

set_option maxHeartbeats 4000000 in
theorem short_c (x : Vw) (va : Option Addr) (vc : Nat) (l : List Ly) (w : World) (hv : LysAt w (.slice va l.length vc) l) (hl : l.length ≤ 1000) :
    Calls Tryd.prog 22 #[vV x (.slice va l.length vc)] w (ShortPost x l w) := by
  obtain ⟨W1, hW1⟩ : ∃ W, w.alloc (.cells #[.int .i64 x.tag, .int .i64 x.n, .int .u64 x.bits, .string x.s, .slice va l.length vc] uT) = W := ⟨_, rfl⟩
  obtain ⟨W2, hW2⟩ : ∃ W, W1.alloc (.cells uZ uT) = W := ⟨_, rfl⟩
  have z1 : W1.heap.size = w.heap.size + 1 := by rw [← hW1]; simp
  have k1 : Kept w W1 := by rw [← hW1]; exact (Kept.refl _).alloc _
  have k2 : Kept W1 W2 := by rw [← hW2]; exact (Kept.refl _).alloc _
  have b0 : Blk W2 w.heap.size uT #[.int .i64 x.tag, .int .i64 x.n, .int .u64 x.bits, .string x.s, .slice va l.length vc] := (show Blk W1 w.heap.size uT _ by rw [← hW1]; exact Blk.new _ _ _).kept k2
  have b1 : Blk W2 (w.heap.size + 1) uT uZ := by rw [← hW2, ← z1]; exact Blk.new _ _ _
  have HK := Lib.hid (k1.trans k2)
  have HN := Lib.hid (norm_c l _ W2 (lys_kept hv HK.out) hl)
  have hfine : ∀ y ∈ Chn.norm ky l, y.cls.size ≤ maxLen := fine_norm (lys_fine hv)
  unfold ShortPost
  obtain ⟨l', hl'⟩ : ∃ l', Chn.norm ky l = l' := ⟨_, rfl⟩
  rw [hl'] at HN hfine ⊢
  have HFI := Lib.hid hfine
  have HBV := Lib.hid b0
  have HBR := Lib.hid b1
  obtain ⟨⟨p0, p1, p2, p3, p4⟩, _⟩ := blk5u b0
  have HW1 := Lib.hid hW1
  have HW2 := Lib.hid hW2
  clear k1 k2 b0 b1 hW1 hW2 hv hl hl' hfine
  go_enter Tryd.func22, Tryd.ntmps22
  go_wp2_with (first | rw [HW1.out] | rw [HW2.out] | rw [z1])
  refine HN.out.mono ?_
  rintro e w9 ⟨ca, cc, rfl, hrow, k9⟩
  have bV := HBV.out.kept k9
  obtain ⟨⟨q0, q1, q2, q3, q4⟩, s0, s1, s2, s3, s4⟩ := blk5u bV
  obtain ⟨X, hX⟩ : ∃ Y, w9.setCell ⟨w.heap.size, 4, none⟩ (.slice ca l'.length cc) = Y := ⟨_, rfl⟩
  have oX : Only (· = w.heap.size) w9 X := by rw [← hX]; exact (Only.refl _ _).put 4 _
  have bX : Blk X w.heap.size uT #[.int .i64 x.tag, .int .i64 x.n, .int .u64 x.bits, .string x.s, .slice ca l'.length cc] := by rw [← hX]; simpa using bV.put 4 (.slice ca l'.length cc)
  obtain ⟨⟨u0, u1, u2, u3, u4⟩, _⟩ := blk5u bX
  have HWX := Lib.hid hX
  have bR := (HBR.out.kept k9).only oX (by omega)
  obtain ⟨⟨c0, c1, c2, c3, c4⟩, d0, d1, d2, d3, d4⟩ := blk5u bR
  obtain ⟨Y, hY⟩ : ∃ Y, put5u X (w.heap.size + 1) (.int .i64 x.tag) (.int .i64 x.n) (.int .u64 x.bits) (.string x.s) (.slice ca l'.length cc) = Y := ⟨_, rfl⟩
  have oY : Only (· = w.heap.size + 1) X Y := by rw [← hY]; exact put5u_only _ _ _ _ _ _ _
  have HY := Lib.hid (show Blk Y (w.heap.size + 1) uT #[.int .i64 x.tag, .int .i64 x.n, .int .u64 x.bits, .string x.s, .slice ca l'.length cc] by rw [← hY]; exact put5u_blk bR _ _ _ _ _)
  have HKY := Lib.hid (((HK.out.trans k9).only oX rfl (fun k e => by omega)).only oY rfl (fun k e => by omega))
  have HWY := Lib.hid (show ((((X.setCell ⟨w.heap.size + 1, 0, none⟩ (.int .i64 x.tag)).setCell ⟨w.heap.size + 1, 1, none⟩ (.int .i64 x.n)).setCell ⟨w.heap.size + 1, 2, none⟩ (.int .u64 x.bits)).setCell ⟨w.heap.size + 1, 3, none⟩ (.string x.s)).setCell ⟨w.heap.size + 1, 4, none⟩ (.slice ca l'.length cc) = Y from hY)
  have hnx := ne_row_blk bV (by decide) hrow
  have hnr := ne_row_blk bR (by decide) (owns_onlyB hrow oX (fun g hg e => hnx (by rw [hg, e])))
  have HRW := Lib.hid (show LysAt Y (.slice ca l'.length cc) l' from owns_lys (owns_onlyB (owns_onlyB hrow oX (fun g hg e => hnx (by rw [hg, e]))) oY (fun g hg e => hnr (by rw [hg, e]))) HFI.out)
  clear k9 hrow bR oY hY bV oX hX bX hnx hnr
  go_wp2_with (first | rw [HWX.out] | rw [HWY.out])
  exact bodyPost_ret (cof_result (by rfl) _ _ rfl HY.out) rfl ⟨ca, cc, rfl, HRW.out, HKY.out⟩

def UnlPost (l : List Ly) (e : Ending) : Prop := ∃ b, e = .returned (.bool b) ∧ (b = false → ∀ y ∈ l, ¬ y.lab = 0)
set_option maxHeartbeats 2000000 in
theorem unl_c (l : List Ly) (va : Option Addr) (vc : Nat) (w : World) (h : LysAt w (.slice va l.length vc) l) :
    Calls Tryd.prog 21 #[.slice va l.length vc] w fun e w' => UnlPost l e ∧ Kept w w' := by
  have hcap : l.length ≤ maxLen := Row.len h
  obtain ⟨_, _, e0, _, _, hat⟩ := h
  injection e0 with e1 e2 e3
  subst e1 e3
  clear e2
  have HAT := Lib.hid hat
  unfold maxLen at hcap
  clear hat
  go_enter Tryd.func21, Tryd.ntmps21
  go_wp2_with fail
  go_loopw [3] (fun i wr => ∃ k : Nat, i = .int .i64 k ∧ k ≤ l.length ∧ (∀ y ∈ l.take k, ¬ y.lab = 0) ∧ wr = w) (fun i wr => l.length - (intOf i).toNat)
  case atStart => exact ⟨0, rfl, by omega, by simp, rfl⟩
  case round =>
    obtain ⟨k, rfl, hk, hno, rfl⟩ := hrel
    have HNO := Lib.hid hno
    clear hno
    by_cases hlt : k < l.length
    · have hltI : (k : Int) < (l.length : Int) := by omega
      have hx : l[k]? = some l[k] := List.getElem?_eq_getElem hlt
      generalize hy : l[k] = y at hx
      obtain ⟨b, o, rfl, q0, q1, q2, q3⟩ := HAT.out k y hx
      have HX := Lib.hid hx
      clear hx hy
      by_cases hc : y.lab = 0
      · go_wp2_with fail
        go_ret
        exact ⟨⟨true, rfl, fun h => by cases h⟩, Kept.refl _⟩
      · have HC := Lib.hid hc
        go_wp2_with fail
        go_roundw
        case rel =>
          refine ⟨k + 1, by go_num, by omega, fun z hz => ?_, by first | trivial | rfl⟩
          rw [List.take_add_one, HX.out] at hz
          simp at hz
          rcases hz with hz | rfl
          · exact HNO.out z hz
          · exact HC.out
        case measure => simp [intOf]; omega
    · have hkl : k = l.length := by omega
      subst hkl
      rw [List.take_length] at HNO
      go_wp2_with fail
      go_ret
      exact ⟨⟨false, rfl, fun _ => HNO.out⟩, Kept.refl _⟩

def LongV (s : ByteArray) (l : List Ly) (e : Ending) : Prop := ∃ t, e = .returned (.bool t) ∧ (t = false → s.size ≤ 60 ∧ l.length ≤ 60)

set_option maxHeartbeats 2000000 in
theorem longv_c (x : Vw) (hs : x.s.size ≤ maxLen) (l : List Ly) (pa : Option Addr) (c : Nat) (w : World) (h : LysAt w (.slice pa l.length c) l) :
    Calls Tryd.prog 20 #[vV x (.slice pa l.length c)] w fun e w' => LongV x.s l e ∧ Kept w w' := by
  have hcap : l.length ≤ maxLen := Row.len h
  obtain ⟨W1, hW1⟩ : ∃ W, w.alloc (.cells #[.int .i64 x.tag, .int .i64 x.n, .int .u64 x.bits, .string x.s, .slice pa l.length c] uT) = W := ⟨_, rfl⟩
  have k1 : Kept w W1 := by rw [← hW1]; exact (Kept.refl _).alloc _
  have b1 : Blk W1 w.heap.size uT #[.int .i64 x.tag, .int .i64 x.n, .int .u64 x.bits, .string x.s, .slice pa l.length c] := by rw [← hW1]; exact Blk.new _ _ _
  have h1 := lys_kept h k1
  obtain ⟨_, _, e0, _, _, hat⟩ := h1
  injection e0 with e1 e2 e3
  subst e1 e3
  clear e2
  have HAT := Lib.hid hat
  have HK := Lib.hid k1
  have HW1 := Lib.hid hW1
  obtain ⟨⟨x0, x1, x2, x3, x4⟩, _⟩ := blk5u b1
  unfold maxLen at hcap hs
  clear hat k1 hW1 b1 h
  go_enter Tryd.func20, Tryd.ntmps20
  go_wp2_with (rw [HW1.out])
  go_loopw [3] (fun i wr => ∃ k : Nat, i = .int .i64 k ∧ k ≤ l.length ∧ k ≤ 61 ∧ wr = W1) (fun i wr => 62 - (intOf i).toNat)
  case atStart => exact ⟨0, rfl, by omega, by omega, rfl⟩
  case round =>
    obtain ⟨k, rfl, hk, hk2, rfl⟩ := hrel
    by_cases hlt : k < l.length ∧ k < 61
    · have hltI : (k : Int) < (l.length : Int) := by omega
      have hlt6 : (k : Int) < 61 := by omega
      have hx : l[k]? = some l[k] := List.getElem?_eq_getElem hlt.1
      generalize hy : l[k] = y at hx
      obtain ⟨b, o, rfl, q0, q1, q2, q3⟩ := HAT.out k y hx
      unfold maxLen at q3
      clear hx hy
      by_cases hc : (60 : Int) < y.cls.size
      · go_wp2_with fail
        go_ret
        exact ⟨⟨true, rfl, fun h => by cases h⟩, HK.out⟩
      · go_wp2_with fail
        go_roundw
        case rel => exact ⟨k + 1, by go_num, by omega, by omega, by first | trivial | rfl⟩
        case measure => simp [intOf]; omega
    · by_cases hL : (60 : Int) < l.length
      · have hk6 : k = 61 := by omega
        subst hk6
        have g1 : ((61 : Nat) : Int) ≤ (l.length : Int) := by omega
        by_cases g2 : ((61 : Nat) : Int) < (l.length : Int)
        · go_wp2_with fail
          go_ret
          exact ⟨⟨true, rfl, fun h => by cases h⟩, HK.out⟩
        · go_wp2_with fail
          go_ret
          exact ⟨⟨true, rfl, fun h => by cases h⟩, HK.out⟩
      · obtain rfl : k = l.length := by omega
        have HLL := Lib.hid (show l.length ≤ 60 by omega)
        by_cases hS : (60 : Int) < x.s.size
        · go_wp2_with fail
          go_ret
          exact ⟨⟨true, rfl, fun h => by cases h⟩, HK.out⟩
        · have HS := Lib.hid (show x.s.size ≤ 60 by omega)
          go_wp2_with fail
          go_ret
          exact ⟨⟨false, rfl, fun _ => ⟨HS.out, HLL.out⟩⟩, HK.out⟩

set_option maxHeartbeats 8000000 in
theorem alike_e (x : Vw) (l m : List Ly) (xa ya : Option Addr) (xc yc : Nat) (p : Int) (w : World) (hl : LysAt w (.slice xa l.length xc) l) (hm : LysAt w (.slice ya m.length yc) m) (hp : ¬ p = 0) (hx : x = zW) (hl0 : l = []) (hm0 : m = []) :
    Calls Tryd.prog 24 #[vV x (.slice xa l.length xc), .int .i64 p, vV x (.slice ya m.length yc), .int .i64 p] w fun e w' => e = .returned (.bool true) ∧ Kept w w' := by
  obtain ⟨W1, hW1⟩ : ∃ W, w.alloc (.cells #[.int .i64 x.tag, .int .i64 x.n, .int .u64 x.bits, .string x.s, .slice xa l.length xc] uT) = W := ⟨_, rfl⟩
  obtain ⟨W2, hW2⟩ : ∃ W, W1.alloc (.cells #[.int .i64 x.tag, .int .i64 x.n, .int .u64 x.bits, .string x.s, .slice ya m.length yc] uT) = W := ⟨_, rfl⟩
  have z1 : W1.heap.size = w.heap.size + 1 := by rw [← hW1]; simp
  have k1 : Kept w W1 := by rw [← hW1]; exact (Kept.refl _).alloc _
  have k2 : Kept W1 W2 := by rw [← hW2]; exact (Kept.refl _).alloc _
  have b1 : Blk W2 w.heap.size uT #[.int .i64 x.tag, .int .i64 x.n, .int .u64 x.bits, .string x.s, .slice xa l.length xc] := (show Blk W1 w.heap.size uT _ by rw [← hW1]; exact Blk.new _ _ _).kept k2
  have b2 : Blk W2 (w.heap.size + 1) uT #[.int .i64 x.tag, .int .i64 x.n, .int .u64 x.bits, .string x.s, .slice ya m.length yc] := by rw [← hW2, ← z1]; exact Blk.new _ _ _
  obtain ⟨⟨p0, p1, p2, p3, p4⟩, _⟩ := blk5u b1
  have HB2 := Lib.hid b2
  have HK := Lib.hid (k1.trans k2)
  have HS1 := Lib.hid (fun W (k : Kept w W) => show Calls Tryd.prog 14 #[vV x (.slice xa l.length xc), vV zW (.slice none ([] : List Ly).length 0)] W (fun e w' => e = .returned (.bool true) ∧ Kept W w') from (sameV_c x zW l [] xa none xc 0 W (lys_kept hl k) Row.nil).mono fun e w' h => by rwa [decide_eq_true (show x = zW ∧ l = [] from ⟨hx, hl0⟩)] at h)
  have HS2 := Lib.hid (fun W (k : Kept w W) => show Calls Tryd.prog 14 #[vV x (.slice ya m.length yc), vV zW (.slice none ([] : List Ly).length 0)] W (fun e w' => e = .returned (.bool true) ∧ Kept W w') from (sameV_c x zW m [] ya none yc 0 W (lys_kept hm k) Row.nil).mono fun e w' h => by rwa [decide_eq_true (show x = zW ∧ m = [] from ⟨hx, hm0⟩)] at h)
  have HW1 := Lib.hid hW1
  have HW2 := Lib.hid hW2
  clear k1 k2 b1 b2 hW1 hW2 hl hm hx hl0 hm0
  go_enter Tryd.func24, Tryd.ntmps24
  go_wp2_with (first | rw [HW1.out] | rw [HW2.out] | rw [z1])
  refine (HS1.out _ HK.out).mono ?_
  rintro e w3 ⟨rfl, k3⟩
  obtain ⟨⟨g0, g1, g2, g3, g4⟩, _⟩ := blk5u (HB2.out.kept k3)
  go_wp2_with fail
  refine (HS2.out _ (HK.out.trans k3)).mono ?_
  rintro e w4 ⟨rfl, k4⟩
  go_wp2_with fail
  go_ret
  exact ⟨rfl, (HK.out.trans k3).trans k4⟩

set_option maxHeartbeats 8000000 in
theorem alike_n (x : Vw) (l m : List Ly) (xa ya : Option Addr) (xc yc : Nat) (w : World) (hl : LysAt w (.slice xa l.length xc) l) (hm : LysAt w (.slice ya m.length yc) m) (hll : l.length ≤ 1000) (hn : m = Chn.norm ky l) :
    Calls Tryd.prog 24 #[vV x (.slice xa l.length xc), .int .i64 0, vV x (.slice ya m.length yc), .int .i64 0] w fun e w' => e = .returned (.bool true) ∧ Kept w w' := by
  obtain ⟨W1, hW1⟩ : ∃ W, w.alloc (.cells #[.int .i64 x.tag, .int .i64 x.n, .int .u64 x.bits, .string x.s, .slice xa l.length xc] uT) = W := ⟨_, rfl⟩
  obtain ⟨W2, hW2⟩ : ∃ W, W1.alloc (.cells #[.int .i64 x.tag, .int .i64 x.n, .int .u64 x.bits, .string x.s, .slice ya m.length yc] uT) = W := ⟨_, rfl⟩
  have z1 : W1.heap.size = w.heap.size + 1 := by rw [← hW1]; simp
  have k1 : Kept w W1 := by rw [← hW1]; exact (Kept.refl _).alloc _
  have k2 : Kept W1 W2 := by rw [← hW2]; exact (Kept.refl _).alloc _
  obtain ⟨D, hD⟩ : ∃ D, W2.drew = D := ⟨_, rfl⟩
  have b1 : Blk D w.heap.size uT #[.int .i64 x.tag, .int .i64 x.n, .int .u64 x.bits, .string x.s, .slice xa l.length xc] := by
    rw [← hD]
    exact ((show Blk W1 w.heap.size uT _ by rw [← hW1]; exact Blk.new _ _ _).kept k2).kept (Kept.refl _).drew
  have b2 : Blk D (w.heap.size + 1) uT #[.int .i64 x.tag, .int .i64 x.n, .int .u64 x.bits, .string x.s, .slice ya m.length yc] := by
    rw [← hD]
    exact (show Blk W2 (w.heap.size + 1) uT _ by rw [← hW2, ← z1]; exact Blk.new _ _ _).kept (Kept.refl _).drew
  have HKD := Lib.hid (show Kept w D by rw [← hD]; exact (k1.trans k2).drew)
  obtain ⟨⟨p0, p1, p2, p3, p4⟩, _⟩ := blk5u b1
  obtain ⟨⟨q0, q1, q2, q3, q4⟩, _⟩ := blk5u b2
  have HL := Lib.hid hl
  have HM := Lib.hid hm
  have HLL := Lib.hid hll
  have HN := Lib.hid hn
  have HW1 := Lib.hid hW1
  have HW2 := Lib.hid hW2
  have hS4 := fun W (k : Kept D W) => And.intro (k.cell p0) (And.intro (k.cell p1) (And.intro (k.cell p2) (And.intro (k.cell p3) (And.intro (k.cell p4) (And.intro (k.cell q0) (And.intro (k.cell q1) (And.intro (k.cell q2) (And.intro (k.cell q3) (k.cell q4)))))))))
  clear k1 k2 b1 b2 hW1 hW2 hl hm hll hn
  go_enter Tryd.func24, Tryd.ntmps24
  go_wp2_with (first | rw [HW1.out] | rw [HW2.out] | rw [z1])
  refine wp_region_held_drew (S := (fun W => W.cell? ⟨w.heap.size, 0, none⟩ = some (.int .i64 x.tag) ∧ W.cell? ⟨w.heap.size, 1, none⟩ = some (.int .i64 x.n) ∧ W.cell? ⟨w.heap.size, 2, none⟩ = some (.int .u64 x.bits) ∧ W.cell? ⟨w.heap.size, 3, none⟩ = some (.string x.s) ∧ W.cell? ⟨w.heap.size, 4, none⟩ = some (.slice xa l.length xc) ∧ W.cell? ⟨w.heap.size + 1, 0, none⟩ = some (.int .i64 x.tag) ∧ W.cell? ⟨w.heap.size + 1, 1, none⟩ = some (.int .i64 x.n) ∧ W.cell? ⟨w.heap.size + 1, 2, none⟩ = some (.int .u64 x.bits) ∧ W.cell? ⟨w.heap.size + 1, 3, none⟩ = some (.string x.s) ∧ W.cell? ⟨w.heap.size + 1, 4, none⟩ = some (.slice ya m.length yc))) (by kernel_rfl) (by rw [hD]; exact hS4 D (Kept.refl _)) (fun hHeld0 => ?_)
  rw [hD] at hHeld0 ⊢
  clear hD
  have kq : Kept D D := Kept.refl _
  refine wpAnyH_take (i := 0) (v := ?_) rfl (by kernel_rfl) (by kernel_rfl) (by kernel_rfl) (fun _ _ _ h => h) (Or.inl ⟨by kernel_rfl, ?_⟩) (by assumption) ?_
  rotate_left
  · intro w hSw; (try dsimp only at hSw); go_simp; (try with_reducible rfl)
  (try simp only [Act.put, List.getElem_toArray, List.getElem_cons_zero, List.getElem_cons_succ, List.setIfInBounds_toArray, List.set_cons_zero, List.set_cons_succ])
  refine wpAnyH_take (i := 2) (v := ?_) rfl (by kernel_rfl) (by kernel_rfl) (by kernel_rfl) (fun _ _ _ h => h) (Or.inl ⟨by kernel_rfl, ?_⟩) (by assumption) ?_
  rotate_left
  · intro w hSw; (try dsimp only at hSw); go_simp; (try with_reducible rfl)
  (try simp only [Act.put, List.getElem_toArray, List.getElem_cons_zero, List.getElem_cons_succ, List.setIfInBounds_toArray, List.set_cons_zero, List.set_cons_succ])
  refine wpAnyH_ready (rs := [1]) (by kernel_rfl) (by simp) ?_
  refine AllReadyH.cons rfl (fun K hK => ?_) AllReadyH.nil
  go_simp
  refine (short_c x xa xc l D (lys_kept HL.out HKD.out) HLL.out).mono ?_
  rintro e y1 ⟨ca, cc, rfl, hly, kn⟩
  have HAN := Lib.hid hly
  clear hly
  replace kq := kq.trans kn
  clear kn
  refine hK.out _ _ (hS4 _ kq) (fun hHeld1 => ?_)
  clear hK K
  (try simp only [Act.put, List.getElem_toArray, List.getElem_cons_zero, List.getElem_cons_succ, List.setIfInBounds_toArray, List.set_cons_zero, List.set_cons_succ])
  refine wpAnyH_ready (rs := [3]) (by kernel_rfl) (by simp) ?_
  refine AllReadyH.cons rfl (fun K hK => ?_) AllReadyH.nil
  go_simp
  refine ((sameV_c x x (Chn.norm ky l) m ca ya cc yc y1 HAN.out (lys_kept HM.out (HKD.out.trans kq))).mono fun e w' h => show e = .returned (.bool true) ∧ Kept y1 w' by rwa [decide_eq_true (show x = x ∧ Chn.norm ky l = m from ⟨rfl, HN.out.symm⟩)] at h).mono ?_
  rintro e y2 ⟨rfl, kn⟩
  replace kq := kq.trans kn
  clear kn
  refine hK.out _ _ (hS4 _ kq) (fun hHeld2 => ?_)
  clear hK K
  (try simp only [Act.put, List.getElem_toArray, List.getElem_cons_zero, List.getElem_cons_succ, List.setIfInBounds_toArray, List.set_cons_zero, List.set_cons_succ])
  refine wpAnyH_take (i := 4) (v := ?_) rfl (by kernel_rfl) (by kernel_rfl) (by kernel_rfl) (fun _ _ _ h => h) (Or.inl ⟨by kernel_rfl, ?_⟩) (by assumption) ?_
  rotate_left
  · intro w hSw; (try dsimp only at hSw); go_simp; (try with_reducible rfl)
  (try simp only [Act.put, List.getElem_toArray, List.getElem_cons_zero, List.getElem_cons_succ, List.setIfInBounds_toArray, List.set_cons_zero, List.set_cons_succ])
  refine wpAnyH_done (by kernel_rfl) ?_ _
  go_wp2_with fail
  go_ret
  exact ⟨rfl, HKD.out.trans kq⟩

end Go.Proofs.YtdceafncncgfbaaDoor

/- Plain: what is shown, behind leave, cast and enter. -/
set_option linter.unusedSimpArgs false
set_option linter.unusedVariables false
namespace Go.Proofs.YtdceafncncgfbaaDoor
open Go.ChangeShapes Go.WideShapes Go.ChangeAt Go.RowKit Go.Shelf

namespace Co
theorem sc_sentP (m : Bool) (l0 l : List Ly) : SC l (sentP m l0 l) := by
  unfold sentP
  split
  · exact SC.norm l
  · exact SC.refl l
section
variable {t : List Tab.C} {x : Vw}
theorem mem_showsP (h : x.tag = 7) {l : List Ly} {q : Mbr} : q ∈ showsP t x l ↔ q ∈ mb t x.s ∧ ∀ y ∈ l, q ∈ mb t y.cls := by
  unfold showsP
  rw [if_pos h, List.mem_filter, decide_eq_true_iff, mem_shown]
  constructor
  · rintro ⟨h1, _, h2⟩
    exact ⟨h1, fun y hy => h2 _ (by simp; exact .inr ⟨y, hy, rfl⟩)⟩
  · rintro ⟨h1, h2⟩
    refine ⟨h1, h1, fun c hc => ?_⟩
    simp at hc
    rcases hc with rfl | ⟨y, hy, rfl⟩
    · exact h1
    · exact h2 y hy
theorem showsP_sub {l m : List Ly} (h : ∀ y ∈ l, ∃ z ∈ m, z.cls = y.cls) : ∀ q ∈ showsP t x m, q ∈ showsP t x l := by
  intro q hq
  by_cases h7 : x.tag = 7
  · rw [mem_showsP h7] at hq ⊢
    refine ⟨hq.1, fun y hy => ?_⟩
    obtain ⟨z, hz, e⟩ := h y hy
    exact e ▸ hq.2 z hz
  · unfold showsP at hq
    rw [if_neg h7] at hq
    cases hq
theorem showsP_same {l m : List Ly} (h : SC l m) : showsP t x l = showsP t x m := by
  by_cases h7 : x.tag = 7
  · unfold showsP
    rw [if_pos h7, if_pos h7]
    refine List.filter_congr fun q hq => decide_eq_decide.2 ?_
    have e1 := mem_showsP (t := t) (x := x) h7 (l := l) (q := q)
    have e2 := mem_showsP (t := t) (x := x) h7 (l := m) (q := q)
    unfold showsP at e1 e2
    rw [if_pos h7, List.mem_filter, decide_eq_true_iff] at e1 e2
    have e3 : (q ∈ mb t x.s ∧ ∀ y ∈ l, q ∈ mb t y.cls) ↔ (q ∈ mb t x.s ∧ ∀ y ∈ m, q ∈ mb t y.cls) := by
      constructor
      · rintro ⟨a, b⟩
        refine ⟨a, fun y hy => ?_⟩
        obtain ⟨z, hz, e⟩ := (h y.cls).2 ⟨y, hy, rfl⟩
        exact e ▸ b z hz
      · rintro ⟨a, b⟩
        refine ⟨a, fun y hy => ?_⟩
        obtain ⟨z, hz, e⟩ := (h y.cls).1 ⟨y, hy, rfl⟩
        exact e ▸ b z hz
    constructor
    · intro hh; exact (e2.2 (e3.1 (e1.1 ⟨hq, hh⟩))).2
    · intro hh; exact (e1.2 (e3.2 (e2.1 ⟨hq, hh⟩))).2
  · unfold showsP
    rw [if_neg h7, if_neg h7]
theorem fits_class (h : x.tag = 7) {l : List Ly} {u : ByteArray} (hu : Wrd.kind u = 3) : fitsB t x l u = true ↔ ∀ q ∈ mb t u, q ∈ showsP t x l := by
  have h1 : ¬ Wrd.kind u = 2 := by rw [hu]; decide
  have h2 : ¬ Wrd.kind u = 1 := by rw [hu]; decide
  have h3 : ¬ x.tag = 6 := by rw [h]; decide
  unfold fitsB
  rw [if_neg h1, if_neg h2, if_pos hu, decide_eq_false h3, decide_eq_true h, Bool.false_or, Bool.true_and]
  unfold showsB
  simp only [List.all_eq_true, Bool.and_eq_true, decide_eq_true_iff]
  constructor
  · intro hh q hq; exact (mem_showsP h).2 (hh q hq)
  · intro hh q hq; exact (mem_showsP h).1 (hh q hq)
theorem fits_again {l : List Ly} {u : ByteArray} {lab : Int} (h : fitsB t x l u = true) : fitsB t x (wrapL x l ⟨true, u, lab⟩) u = true := by
  have hb := bad_self (t := t) (x := x) (ty := fun _ => some u) (back := false) (l := l) (y := ⟨true, u, lab⟩) (by simp [badK, ky, h])
  have e : l ++ (effL x (fun _ => some u) false ⟨true, u, lab⟩).toList = wrapL x l ⟨true, u, lab⟩ := by
    unfold effL effK wrapL ky
    by_cases hk : x.tag = 7 ∧ Wrd.kind u = 3 <;> simp [hk]
  rw [e] at hb
  simpa [badK, ky] using hb
theorem wrap_keep (l : List Ly) (y : Ly) : ∀ z ∈ l, ∃ v ∈ wrapL x l y, v.cls = z.cls := fun z hz => ⟨z, by unfold wrapL; split <;> simp [hz], rfl⟩
theorem wrap_in {l : List Ly} {y : Ly} (h : x.tag = 7 → Wrd.kind y.cls = 3 → ∃ z ∈ l, z.cls = y.cls) : SC l (wrapL x l y) := by
  unfold wrapL
  split
  · rename_i hk
    exact SC.more fun z hz => by simp at hz; subst hz; exact h hk.1 hk.2
  · exact SC.refl l
/-- Behind leave an object shows no more. -/
theorem left_sub (m : Bool) (l : List Ly) (s : ByteArray) (n : Int) : ∀ q ∈ showsP t x (sentP m l (wrapL x l ⟨false, s, n⟩)), q ∈ showsP t x l :=
  showsP_sub fun y hy => by
    obtain ⟨v, hv, e⟩ := wrap_keep (x := x) l ⟨false, s, n⟩ y hy
    obtain ⟨z, hz, e2⟩ := (sc_sentP m l _ y.cls).1 ⟨v, hv, e⟩
    exact ⟨z, hz, e2⟩
/-- Behind a cast it shows no more than behind leave. -/
theorem cast_sub (m : Bool) (l : List Ly) (s u : ByteArray) (n lab : Int) : ∀ q ∈ showsP t x (sentP m l (wrapL x (wrapL x l ⟨false, s, n⟩) ⟨true, u, lab⟩)), q ∈ showsP t x (sentP m l (wrapL x l ⟨false, s, n⟩)) :=
  showsP_sub fun y hy => by
    obtain ⟨v, hv, e⟩ := (sc_sentP m l _ y.cls).2 ⟨y, hy, rfl⟩
    obtain ⟨z, hz, e2⟩ := wrap_keep (x := x) (wrapL x l ⟨false, s, n⟩) ⟨true, u, lab⟩ v hv
    obtain ⟨a, ha, e3⟩ := (sc_sentP m l _ y.cls).1 ⟨z, hz, e2.trans e⟩
    exact ⟨a, ha, e3⟩
/-- A class is entered just if what leave left shows all its members. -/
theorem cast_class (h : x.tag = 7) (m : Bool) (l : List Ly) (s u : ByteArray) (n : Int) (hu : Wrd.kind u = 3) : fitsB t x (wrapL x l ⟨false, s, n⟩) u = true ↔ ∀ q ∈ mb t u, q ∈ showsP t x (sentP m l (wrapL x l ⟨false, s, n⟩)) := by
  rw [fits_class h hu, ← showsP_same (sc_sentP m l _)]
/-- What was entered is entered again, and shows the same. -/
theorem again (m : Bool) (l l1 : List Ly) (u : ByteArray) (lab : Int) (h : fitsB t x l1 u = true) :
    enterR t x (sentP m l (wrapL x l1 ⟨true, u, lab⟩)) u lab = .ok (wrapL x (sentP m l (wrapL x l1 ⟨true, u, lab⟩)) ⟨true, u, lab⟩) ∧
      showsP t x (sentP m (sentP m l (wrapL x l1 ⟨true, u, lab⟩)) (wrapL x (sentP m l (wrapL x l1 ⟨true, u, lab⟩)) ⟨true, u, lab⟩)) = showsP t x (sentP m l (wrapL x l1 ⟨true, u, lab⟩)) := by
  have hf : fitsB t x (sentP m l (wrapL x l1 ⟨true, u, lab⟩)) u = true := by rw [← fitsB_same (sc_sentP m l _)]; exact fits_again h
  refine ⟨by unfold enterR; rw [if_pos hf], ?_⟩
  have hin : SC (sentP m l (wrapL x l1 ⟨true, u, lab⟩)) (wrapL x (sentP m l (wrapL x l1 ⟨true, u, lab⟩)) ⟨true, u, lab⟩) := wrap_in fun h7 hk => by
    refine (sc_sentP m l _ u).1 ⟨⟨true, u, lab⟩, ?_, rfl⟩
    unfold wrapL
    rw [if_pos ⟨h7, hk⟩]
    simp
  exact (showsP_same (hin.trans (sc_sentP m _ _))).symm
/-- What is no object keeps its chain. -/
theorem cast_base (h : ¬ x.tag = 7) (m : Bool) (l : List Ly) (s u : ByteArray) (lab : Int) : sent m l (castR t x l s u lab) = if fitsB t x l u = true then .ok l else .error lab := by
  have e : ∀ y, wrapL x l y = l := fun y => by unfold wrapL; rw [if_neg (fun g => h g.1)]
  unfold castR enterR
  rw [e]
  split
  · rw [e]; simp [sent, sentP]
  · rfl
end
end Co
end Go.Proofs.YtdceafncncgfbaaDoor

/- within: are all members of one list in another? -/
set_option linter.unusedSimpArgs false
set_option linter.unusedVariables false
set_option maxRecDepth 100000
namespace Go.Proofs.YtdceafncncgfbaaDoor
open Go.ChangeShapes Go.WideShapes Go.ChangeAt Go.RowKit Go.Shelf

theorem eqMB (s t : ByteArray) (m n : Int) (w : World) : (binOp .eql tM (.agg #[.string s, .int .i64 m]) (.agg #[.string t, .int .i64 n])).run Tryd.prog w = .ok (.bool (decide ((s, m) = (t, n)))) w := by
  have hf : Tryd.prog.fieldsOf tM = #[{ name := "Name", type := 9, offset := 0, embedded := false, tag := "", pkgPath := "", byteOffset := 0 }, { name := "Arity", type := 3, offset := 1, embedded := false, tag := "", pkgPath := "", byteOffset := 16 }] := by kernel_rfl
  have hp : Tryd.prog.stoodInHeld tM = false := by kernel_rfl
  have h1 : (part 9 #[.string s, .int .i64 m] 0).run Tryd.prog w = .ok (.string s) w := by kernel_rfl
  have h2 : (part 3 #[.string s, .int .i64 m] 1).run Tryd.prog w = .ok (.int .i64 m) w := by kernel_rfl
  have g1 : (part 9 #[.string t, .int .i64 n] 0).run Tryd.prog w = .ok (.string t) w := by kernel_rfl
  have g2 : (part 3 #[.string t, .int .i64 n] 1).run Tryd.prog w = .ok (.int .i64 n) w := by kernel_rfl
  have e1 := fun d => run_equalIn_string (P := Tryd.prog) w d 9 s t Tryd.underlying9
  have e2 := fun d => run_equalIn_int (P := Tryd.prog) w d 3 .i64 .i64 m n Tryd.underlying3
  have hs : (s.toList == t.toList) = decide (s = t) := by
    by_cases e : s = t
    · subst e; simp
    · rw [decide_eq_false e]
      exact beq_no e
  rw [run_eql_struct, show (10000 : Nat) = 9998 + 1 + 1 from rfl, run_equalIn_struct w _ _ _ _ (by rw [hf]; exact Tryd.underlying33) hp, hf]
  simp only [Op.eqFields, Sem.run_bind, Sem.run_ite, h1, h2, g1, g2, e1, e2, Result.andThen_ok, hs]
  have hd : decide ((s, m) = (t, n)) = (decide (s = t) && m == n) := by
    by_cases h2 : s = t <;> by_cases h3 : m = n <;> simp [h2, h3]
  rw [hd]
  cases h2 : decide (s = t) <;> cases h3 : (m == n) <;> simp [Op.eqFields, Result.andThen]

set_option maxHeartbeats 8000000 in
theorem within_c (A B : List Mbr) (a b : Option Addr) (c d : Nat) (w : World) (ha : MbsAt w a A) (hb : MbsAt w b B) (hA : A.length ≤ 2002000) (hB : B.length ≤ 2002000) :
    Calls Tryd.prog 26 #[.slice a A.length c, .slice b B.length d] w fun e w' => e = .returned (.bool (decide (∀ q ∈ A, q ∈ B))) ∧ Kept w w' := by
  obtain ⟨r, hr⟩ : ∃ r, decide (∀ q ∈ A, q ∈ B) = r := ⟨_, rfl⟩
  rw [hr]
  have HR := Lib.hid hr
  have HA := Lib.hid ha
  have HB := Lib.hid hb
  clear ha hb hr
  go_enter Tryd.func26, Tryd.ntmps26
  go_wp2_with fail
  go_loopw [5] (fun q wr => ∃ j : Nat, q = .int .i64 j ∧ j ≤ A.length ∧ Hid (∀ z ∈ A.take j, z ∈ B) ∧ Kept w wr) (fun q wr => A.length - (intOf q).toNat)
  case atStart => exact ⟨0, rfl, Nat.zero_le _, Lib.hid (by simp), Kept.refl _⟩
  case round =>
    obtain ⟨j, rfl, hj, HIN, hk⟩ := hrel
    by_cases hlt : j < A.length
    · have hltI : (j : Int) < (A.length : Int) := by omega
      have hx : A[j]? = some A[j] := List.getElem?_eq_getElem hlt
      generalize A[j] = x at hx
      obtain ⟨xs, xn⟩ := x
      obtain ⟨ga, rfl, _, _⟩ := (HA.out.kept hk) j _ hx
      have HX := Lib.hid hx
      have HK := Lib.hid hk
      clear hx hk
      go_wp2_with fail
      go_loopw [6, 7] (fun s6 s7 wr2 => ∃ (k : Nat) (r6 : Bool), s7 = .int .i64 k ∧ s6 = .bool r6 ∧ k ≤ B.length ∧ Hid (r6 = decide ((xs, xn) ∈ B.take k)) ∧ Hid (Kept w wr2)) (fun s6 s7 wr2 => B.length - (intOf s7).toNat)
      case atStart => exact ⟨0, false, rfl, rfl, Nat.zero_le _, Lib.hid (by simp), HK⟩
      case round =>
        obtain ⟨k, r6, rfl, rfl, hk2, HR6, HKK⟩ := hrel
        by_cases hlt2 : k < B.length
        · have hlt2I : (k : Int) < (B.length : Int) := by omega
          have hy : B[k]? = some B[k] := List.getElem?_eq_getElem hlt2
          generalize B[k] = y at hy
          obtain ⟨ys, yn⟩ := y
          obtain ⟨gb, rfl, b0, b1⟩ := (HB.out.kept HKK.out) k _ hy
          obtain ⟨ga2, e2, a0, a1⟩ := (HA.out.kept HKK.out) j _ HX.out
          cases e2
          obtain ⟨e, he⟩ : ∃ e, decide ((xs, xn) = (ys, yn)) = e := ⟨_, rfl⟩
          have heq : ∀ w, (binOp .eql tM (.agg #[.string xs, .int .i64 xn]) (.agg #[.string ys, .int .i64 yn])).run Tryd.prog w = .ok (.bool e) w := fun w => by
            rw [eqMB, he]
          have HNX := Lib.hid (show (r6 || e) = decide ((xs, xn) ∈ B.take (k + 1)) by
            rw [HR6.out, ← he, List.take_add_one, hy, Bool.eq_iff_iff]
            simp)
          clear hy he HR6
          cases r6 with
          | false =>
            rw [Bool.false_or] at HNX
            go_wp2_with fail
            refine wp_region_held_drew (S := (fun W => W.cell? ⟨ga, j * 2, none⟩ = some (.string xs) ∧ W.cell? ⟨ga, j * 2 + 1, none⟩ = some (.int .i64 xn) ∧ W.cell? ⟨gb, k * 2, none⟩ = some (.string ys) ∧ W.cell? ⟨gb, k * 2 + 1, none⟩ = some (.int .i64 yn))) (by kernel_rfl) ⟨a0, a1, b0, b1⟩ (fun hHeld0 => ?_)
            refine wpAnyH_take (i := 0) (v := ?_) rfl (by kernel_rfl) (by kernel_rfl) (by kernel_rfl) (fun _ _ _ h => h) (Or.inl ⟨by kernel_rfl, ?_⟩) (by assumption) ?_
            rotate_left
            · intro w hSw; (try dsimp only at hSw); go_simp; (try with_reducible rfl)
            (try simp only [Act.put, List.getElem_toArray, List.getElem_cons_zero, List.getElem_cons_succ, List.setIfInBounds_toArray, List.set_cons_zero, List.set_cons_succ])
            refine wpAnyH_take (i := 1) (v := ?_) rfl (by kernel_rfl) (by kernel_rfl) (by kernel_rfl) (fun _ _ _ h => h) (Or.inl ⟨by kernel_rfl, ?_⟩) (by assumption) ?_
            rotate_left
            · intro w hSw; (try dsimp only at hSw); go_simp; (try with_reducible rfl)
            (try simp only [Act.put, List.getElem_toArray, List.getElem_cons_zero, List.getElem_cons_succ, List.setIfInBounds_toArray, List.set_cons_zero, List.set_cons_succ])
            refine wpAnyH_take (i := 2) (v := ?_) rfl (by kernel_rfl) (by kernel_rfl) (by kernel_rfl) (fun _ _ _ h => h) (Or.inl ⟨by kernel_rfl, ?_⟩) (by assumption) ?_
            rotate_left
            · intro w hSw; (try dsimp only at hSw); go_simp; (try with_reducible rfl)
            (try simp only [Act.put, List.getElem_toArray, List.getElem_cons_zero, List.getElem_cons_succ, List.setIfInBounds_toArray, List.set_cons_zero, List.set_cons_succ])
            refine wpAnyH_take (i := 3) (v := ?_) rfl (by kernel_rfl) (by kernel_rfl) (by kernel_rfl) (fun _ _ _ h => h) (Or.inl ⟨by kernel_rfl, ?_⟩) (by assumption) ?_
            rotate_left
            · intro w hSw; (try dsimp only at hSw); go_simp; (try with_reducible rfl)
            (try simp only [Act.put, List.getElem_toArray, List.getElem_cons_zero, List.getElem_cons_succ, List.setIfInBounds_toArray, List.set_cons_zero, List.set_cons_succ])
            refine wpAnyH_take (i := 4) (v := ?_) rfl (by kernel_rfl) (by kernel_rfl) (by kernel_rfl) (fun _ _ _ h => h) (Or.inl ⟨by kernel_rfl, ?_⟩) (by assumption) ?_
            rotate_left
            · intro w hSw; (try dsimp only at hSw); go_simp; (try with_reducible rfl)
            (try simp only [Act.put, List.getElem_toArray, List.getElem_cons_zero, List.getElem_cons_succ, List.setIfInBounds_toArray, List.set_cons_zero, List.set_cons_succ])
            refine wpAnyH_take (i := 5) (v := ?_) rfl (by kernel_rfl) (by kernel_rfl) (by kernel_rfl) (fun _ _ _ h => h) (Or.inl ⟨by kernel_rfl, ?_⟩) (by assumption) ?_
            rotate_left
            · intro w hSw; (try dsimp only at hSw); go_simp; (try with_reducible rfl)
            (try simp only [Act.put, List.getElem_toArray, List.getElem_cons_zero, List.getElem_cons_succ, List.setIfInBounds_toArray, List.set_cons_zero, List.set_cons_succ])
            refine wpAnyH_take (i := 6) (v := ?_) rfl (by kernel_rfl) (by kernel_rfl) (by kernel_rfl) (fun _ _ _ h => h) (Or.inl ⟨by kernel_rfl, ?_⟩) (by assumption) ?_
            rotate_left
            · intro w hSw; (try dsimp only at hSw); go_simp; (try with_reducible rfl)
            (try simp only [Act.put, List.getElem_toArray, List.getElem_cons_zero, List.getElem_cons_succ, List.setIfInBounds_toArray, List.set_cons_zero, List.set_cons_succ])
            refine wpAnyH_take (i := 7) (v := ?_) rfl (by kernel_rfl) (by kernel_rfl) (by kernel_rfl) (fun _ _ _ h => h) (Or.inl ⟨by kernel_rfl, ?_⟩) (by assumption) ?_
            rotate_left
            · intro w hSw; (try dsimp only at hSw); go_simp; (try with_reducible rfl)
            (try simp only [Act.put, List.getElem_toArray, List.getElem_cons_zero, List.getElem_cons_succ, List.setIfInBounds_toArray, List.set_cons_zero, List.set_cons_succ])
            refine wpAnyH_take (i := 8) (v := ?_) rfl (by kernel_rfl) (by kernel_rfl) (by kernel_rfl) (fun _ _ _ h => h) (Or.inl ⟨by kernel_rfl, ?_⟩) (by assumption) ?_
            rotate_left
            · intro w hSw; (try dsimp only at hSw); go_simp; (try with_reducible rfl)
            (try simp only [Act.put, List.getElem_toArray, List.getElem_cons_zero, List.getElem_cons_succ, List.setIfInBounds_toArray, List.set_cons_zero, List.set_cons_succ])
            refine wpAnyH_take (i := 9) (v := ?_) rfl (by kernel_rfl) (by kernel_rfl) (by kernel_rfl) (fun _ _ _ h => h) (Or.inl ⟨by kernel_rfl, ?_⟩) (by assumption) ?_
            rotate_left
            · intro w hSw; (try dsimp only at hSw); go_simp; (try with_reducible rfl)
            (try simp only [Act.put, List.getElem_toArray, List.getElem_cons_zero, List.getElem_cons_succ, List.setIfInBounds_toArray, List.set_cons_zero, List.set_cons_succ])
            refine wpAnyH_take (i := 10) (v := ?_) rfl (by kernel_rfl) (by kernel_rfl) (by kernel_rfl) (fun _ _ _ h => h) (Or.inl ⟨by kernel_rfl, ?_⟩) (by assumption) ?_
            rotate_left
            · intro w hSw; (try dsimp only at hSw); go_simp; (try with_reducible rfl)
            (try simp only [Act.put, List.getElem_toArray, List.getElem_cons_zero, List.getElem_cons_succ, List.setIfInBounds_toArray, List.set_cons_zero, List.set_cons_succ])
            refine wpAnyH_take (i := 11) (v := ?_) rfl (by kernel_rfl) (by kernel_rfl) (by kernel_rfl) (fun _ _ _ h => h) (Or.inl ⟨by kernel_rfl, ?_⟩) (by assumption) ?_
            rotate_left
            · intro w hSw; (try dsimp only at hSw); go_simp; (try with_reducible rfl)
            (try simp only [Act.put, List.getElem_toArray, List.getElem_cons_zero, List.getElem_cons_succ, List.setIfInBounds_toArray, List.set_cons_zero, List.set_cons_succ])
            refine wpAnyH_take (i := 12) (v := ?_) rfl (by kernel_rfl) (by kernel_rfl) (by kernel_rfl) (fun _ _ _ h => h) (Or.inl ⟨by kernel_rfl, ?_⟩) (by assumption) ?_
            rotate_left
            · intro w hSw; (try dsimp only at hSw); go_simp; (try with_reducible rfl)
            (try simp only [Act.put, List.getElem_toArray, List.getElem_cons_zero, List.getElem_cons_succ, List.setIfInBounds_toArray, List.set_cons_zero, List.set_cons_succ])
            refine wpAnyH_done (by kernel_rfl) ?_ _
            clear hHeld0
            go_wp2_with fail
            go_roundw
            case rel => exact ⟨k + 1, e, by go_num, rfl, by omega, HNX, Lib.hid HKK.out.drew⟩
            case measure => simp [intOf]; omega
          | true =>
            rw [Bool.true_or] at HNX
            go_wp2_with fail
            refine wp_region_held_drew (S := (fun W => W.cell? ⟨ga, j * 2, none⟩ = some (.string xs) ∧ W.cell? ⟨ga, j * 2 + 1, none⟩ = some (.int .i64 xn) ∧ W.cell? ⟨gb, k * 2, none⟩ = some (.string ys) ∧ W.cell? ⟨gb, k * 2 + 1, none⟩ = some (.int .i64 yn))) (by kernel_rfl) ⟨a0, a1, b0, b1⟩ (fun hHeld0 => ?_)
            refine wpAnyH_take (i := 0) (v := ?_) rfl (by kernel_rfl) (by kernel_rfl) (by kernel_rfl) (fun _ _ _ h => h) (Or.inl ⟨by kernel_rfl, ?_⟩) (by assumption) ?_
            rotate_left
            · intro w hSw; (try dsimp only at hSw); go_simp; (try with_reducible rfl)
            (try simp only [Act.put, List.getElem_toArray, List.getElem_cons_zero, List.getElem_cons_succ, List.setIfInBounds_toArray, List.set_cons_zero, List.set_cons_succ])
            refine wpAnyH_take (i := 1) (v := ?_) rfl (by kernel_rfl) (by kernel_rfl) (by kernel_rfl) (fun _ _ _ h => h) (Or.inl ⟨by kernel_rfl, ?_⟩) (by assumption) ?_
            rotate_left
            · intro w hSw; (try dsimp only at hSw); go_simp; (try with_reducible rfl)
            (try simp only [Act.put, List.getElem_toArray, List.getElem_cons_zero, List.getElem_cons_succ, List.setIfInBounds_toArray, List.set_cons_zero, List.set_cons_succ])
            refine wpAnyH_take (i := 2) (v := undef) rfl (by kernel_rfl) (by kernel_rfl) (by kernel_rfl) (fun _ _ _ h => h) (Or.inr ⟨by kernel_rfl, rfl⟩) (by assumption) ?_
            (try simp only [Act.put, List.getElem_toArray, List.getElem_cons_zero, List.getElem_cons_succ, List.setIfInBounds_toArray, List.set_cons_zero, List.set_cons_succ])
            refine wpAnyH_take (i := 3) (v := undef) rfl (by kernel_rfl) (by kernel_rfl) (by kernel_rfl) (fun _ _ _ h => h) (Or.inr ⟨by kernel_rfl, rfl⟩) (by assumption) ?_
            (try simp only [Act.put, List.getElem_toArray, List.getElem_cons_zero, List.getElem_cons_succ, List.setIfInBounds_toArray, List.set_cons_zero, List.set_cons_succ])
            refine wpAnyH_take (i := 4) (v := undef) rfl (by kernel_rfl) (by kernel_rfl) (by kernel_rfl) (fun _ _ _ h => h) (Or.inr ⟨by kernel_rfl, rfl⟩) (by assumption) ?_
            (try simp only [Act.put, List.getElem_toArray, List.getElem_cons_zero, List.getElem_cons_succ, List.setIfInBounds_toArray, List.set_cons_zero, List.set_cons_succ])
            refine wpAnyH_take (i := 5) (v := undef) rfl (by kernel_rfl) (by kernel_rfl) (by kernel_rfl) (fun _ _ _ h => h) (Or.inr ⟨by kernel_rfl, rfl⟩) (by assumption) ?_
            (try simp only [Act.put, List.getElem_toArray, List.getElem_cons_zero, List.getElem_cons_succ, List.setIfInBounds_toArray, List.set_cons_zero, List.set_cons_succ])
            refine wpAnyH_take (i := 6) (v := undef) rfl (by kernel_rfl) (by kernel_rfl) (by kernel_rfl) (fun _ _ _ h => h) (Or.inr ⟨by kernel_rfl, rfl⟩) (by assumption) ?_
            (try simp only [Act.put, List.getElem_toArray, List.getElem_cons_zero, List.getElem_cons_succ, List.setIfInBounds_toArray, List.set_cons_zero, List.set_cons_succ])
            refine wpAnyH_take (i := 7) (v := undef) rfl (by kernel_rfl) (by kernel_rfl) (by kernel_rfl) (fun _ _ _ h => h) (Or.inr ⟨by kernel_rfl, rfl⟩) (by assumption) ?_
            (try simp only [Act.put, List.getElem_toArray, List.getElem_cons_zero, List.getElem_cons_succ, List.setIfInBounds_toArray, List.set_cons_zero, List.set_cons_succ])
            refine wpAnyH_take (i := 8) (v := undef) rfl (by kernel_rfl) (by kernel_rfl) (by kernel_rfl) (fun _ _ _ h => h) (Or.inr ⟨by kernel_rfl, rfl⟩) (by assumption) ?_
            (try simp only [Act.put, List.getElem_toArray, List.getElem_cons_zero, List.getElem_cons_succ, List.setIfInBounds_toArray, List.set_cons_zero, List.set_cons_succ])
            refine wpAnyH_take (i := 9) (v := undef) rfl (by kernel_rfl) (by kernel_rfl) (by kernel_rfl) (fun _ _ _ h => h) (Or.inr ⟨by kernel_rfl, rfl⟩) (by assumption) ?_
            (try simp only [Act.put, List.getElem_toArray, List.getElem_cons_zero, List.getElem_cons_succ, List.setIfInBounds_toArray, List.set_cons_zero, List.set_cons_succ])
            refine wpAnyH_take (i := 10) (v := undef) rfl (by kernel_rfl) (by kernel_rfl) (by kernel_rfl) (fun _ _ _ h => h) (Or.inr ⟨by kernel_rfl, rfl⟩) (by assumption) ?_
            (try simp only [Act.put, List.getElem_toArray, List.getElem_cons_zero, List.getElem_cons_succ, List.setIfInBounds_toArray, List.set_cons_zero, List.set_cons_succ])
            refine wpAnyH_take (i := 11) (v := ?_) rfl (by kernel_rfl) (by kernel_rfl) (by kernel_rfl) (fun _ _ _ h => h) (Or.inl ⟨by kernel_rfl, ?_⟩) (by assumption) ?_
            rotate_left
            · intro w hSw; (try dsimp only at hSw); go_simp; (try with_reducible rfl)
            (try simp only [Act.put, List.getElem_toArray, List.getElem_cons_zero, List.getElem_cons_succ, List.setIfInBounds_toArray, List.set_cons_zero, List.set_cons_succ])
            refine wpAnyH_take (i := 12) (v := ?_) rfl (by kernel_rfl) (by kernel_rfl) (by kernel_rfl) (fun _ _ _ h => h) (Or.inl ⟨by kernel_rfl, ?_⟩) (by assumption) ?_
            rotate_left
            · intro w hSw; (try dsimp only at hSw); go_simp; (try with_reducible rfl)
            (try simp only [Act.put, List.getElem_toArray, List.getElem_cons_zero, List.getElem_cons_succ, List.setIfInBounds_toArray, List.set_cons_zero, List.set_cons_succ])
            refine wpAnyH_done (by kernel_rfl) ?_ _
            clear hHeld0
            go_wp2_with fail
            go_roundw
            case rel => exact ⟨k + 1, true, by go_num, rfl, by omega, HNX, Lib.hid HKK.out.drew⟩
            case measure => simp [intOf]; omega
        · have hlt2I : ¬ (k : Int) < (B.length : Int) := by omega
          have hkB : k = B.length := by omega
          have HR7 := Lib.hid (show r6 = decide ((xs, xn) ∈ B) by rw [HR6.out, hkB, List.take_length])
          clear HR6
          cases r6 with
          | true =>
            go_wp2_with fail
            go_roundw
            case rel =>
              refine ⟨j + 1, by go_num, by omega, Lib.hid (fun z hz => ?_), HKK.out⟩
              rw [List.take_add_one, HX.out] at hz
              simp at hz
              rcases hz with hz | rfl
              · exact HIN.out z hz
              · exact of_decide_eq_true HR7.out.symm
            case measure => simp [intOf]; omega
          | false =>
            go_wp2_with fail
            go_ret
            have hrf : r = false := by
              rw [← HR.out]
              exact decide_eq_false (fun h => of_decide_eq_false HR7.out.symm (h _ (List.mem_of_getElem? HX.out)))
            subst hrf
            exact ⟨rfl, HKK.out⟩
    · have hltI : ¬ (j : Int) < (A.length : Int) := by omega
      have HK := Lib.hid hk
      clear hk
      have hjA : j = A.length := by omega
      have HALL := Lib.hid (show ∀ z ∈ A, z ∈ B by have := HIN.out; rwa [hjA, List.take_length] at this)
      clear HIN hjA
      go_wp2_with fail
      go_ret
      have hrt : r = true := by
        rw [← HR.out]
        exact decide_eq_true HALL.out
      subst hrt
      exact ⟨rfl, HK.out⟩
end Go.Proofs.YtdceafncncgfbaaDoor

/- CoerceShrinks. (gencsi16.py) -/
set_option linter.unusedSimpArgs false
set_option linter.unusedVariables false
set_option maxRecDepth 100000
namespace Go.Proofs.YtdceafncncgfbaaDoor
open Go.ChangeShapes Go.WideShapes Go.ChangeAt Go.RowKit Go.Shelf
attribute [local go_sem] Oper.semAt_some

theorem small_of_shortT {t : List Tab.C} (h : t.length ≤ 9 ∧ ∀ c ∈ t, ShortC c) : Small t :=
  ⟨by omega, fun c hc => by have := (h.2 c hc).1; omega, fun c hc => by have := (h.2 c hc).2.1; omega, fun c hc m hm => by have := (h.2 c hc).2.2 m hm; unfold ShortM at this; omega⟩
theorem base_in {u : ByteArray} (h : Wrd.base u = true) : ∃ b ∈ Wrd.bs, b = u := by
  unfold Wrd.base Wrd.has at h
  obtain ⟨b, hb, e⟩ := List.any_eq_true.1 h
  exact ⟨b, hb, of_decide_eq_true e⟩
theorem cls_facts {u : ByteArray} (h : Wrd.cls u = true) : Wrd.base u = false ∧ Wrd.kind u = 3 ∧ ¬ u = ⟨#[63]⟩ := by
  have hb : Wrd.base u = false := by
    cases hb : Wrd.base u with
    | false => rfl
    | true =>
      obtain ⟨b, hm, rfl⟩ := base_in hb
      have key : ∀ b ∈ Wrd.bs, Wrd.cls b = false := by decide
      rw [key b hm] at h
      cases h
  have hq : ¬ u = ⟨#[63]⟩ := fun e => by
    subst e
    revert h
    decide
  refine ⟨hb, ?_, hq⟩
  unfold Wrd.kind
  rw [hb, h]
  simp [hq]
theorem base_facts {u : ByteArray} (h : Wrd.base u = true) : Wrd.kind u = 1 ∧ ¬ (7 : Int) = Wrd.tag u := by
  refine ⟨by unfold Wrd.kind; rw [if_pos h], ?_⟩
  obtain ⟨b, hm, rfl⟩ := base_in h
  have key : ∀ b ∈ Wrd.bs, Wrd.tag b ≤ 5 := by decide
  have := key b hm
  omega
theorem lys_putv {w w' : World} {v : Value} {l : List Ly} {qb : Nat} {a b c : Int} {s : ByteArray} {sa : Option Addr} {n k : Nat} (h : LysAt w v l) (hq : Blk w qb uT #[.int .i64 a, .int .i64 b, .int .u64 c, .string s, .slice sa n k]) (ho : Only (· = qb) w w') : LysAt w' v l := h.mono fun b o x r => by
  have hb : ¬ b = qb := by
    rintro rfl
    have := r.1
    rw [hq.cell] at this
    have hm := Array.mem_of_getElem? this
    simp at hm
  exact ⟨ho.cellN r.1 hb, ho.cellN r.2.1 hb, ho.cellN r.2.2.1 hb, r.2.2.2⟩
theorem membersM_c (a : Option Addr) (c : Nat) (t : List Tab.C) (s : ByteArray) (w : World) (hT : TabAt w (.slice a t.length c) t) (hS : Small t) :
    Calls Tryd.prog 28 #[.slice a t.length c, .string s] w fun e w' => ∃ ma mc, e = .returned (.slice ma (Tab.members t s).length mc) ∧ MbsAt w' ma (Tab.members t s) ∧ Kept w w' :=
  (members_c a c t s w hT hS).mono fun e w' ⟨v, e1, hrow, k⟩ => by
    obtain ⟨ra, rc, rfl⟩ := owns_slice_n hrow
    exact ⟨ra, rc, e1, MbsAt.of_row hrow, k⟩
theorem shows_len {t : List Tab.C} (hS : Small t) (x : Vw) (l : List Ly) : (Co.showsP t x l).length ≤ 2002000 := by
  unfold Co.showsP
  split
  · exact Nat.le_trans (List.length_filter_le _ _) (Nat.le_trans (members_le hS x.s) (by decide))
  · simp
/-- What the law asks, in plain words, of an object. -/
structure ShrP (t : List Tab.C) (x : Vw) (m : Bool) (l0 lL : List Ly) (s u : ByteArray) (lab : Int) (vx : Vw) (lx : List Ly) (bl : Int) (F : Bool) : Prop where
  left : Co.sentP m l0 (Co.wrapL x l0 ⟨false, s, wrap64 (-lab)⟩) = lL
  val : Co.valR x (Co.sent m l0 (Co.castR t x l0 s u lab)) = (vx, lx)
  labl : Co.labR (Co.sent m l0 (Co.castR t x l0 s u lab)) = bl
  sub : ∀ q ∈ Co.showsP t x lL, q ∈ Co.showsP t x l0
  len : lx.length ≤ 100 ∧ lL.length ≤ 100
  yes : F = true → bl = 0 ∧ vx = x ∧ (∀ q ∈ Co.showsP t x lx, q ∈ Co.showsP t x lL) ∧ ∃ ly, Co.sent m lx (Co.enterR t x lx u lab) = .ok ly ∧ Co.showsP t x ly = Co.showsP t x lx ∧ ly.length ≤ 200
  no : F = false → bl = lab ∧ vx = zW ∧ lx = []
  k3 : Wrd.kind u = 3 → F = decide (∀ q ∈ Co.mb t u, q ∈ Co.showsP t x lL)
  k1 : Wrd.kind u = 1 → F = false
  k2 : Wrd.kind u = 2 → F = true
  k0 : Wrd.kind u = 0 → F = false
theorem sentP_len (m : Bool) (l0 l : List Ly) : (Co.sentP m l0 l).length ≤ l.length := by
  unfold Co.sentP
  split
  · exact norm_le l
  · exact Nat.le_refl _
theorem shr_facts {t : List Tab.C} {x : Vw} (h7 : x.tag = 7) (m : Bool) (l0 : List Ly) (s u : ByteArray) (lab : Int) (hl : l0.length ≤ 60) : ∃ lL vx lx bl F, ShrP t x m l0 lL s u lab vx lx bl F := by
  have e1 := Co.wrapL_len x l0 ⟨false, s, wrap64 (-lab)⟩
  have e2 := Co.wrapL_len x (Co.wrapL x l0 ⟨false, s, wrap64 (-lab)⟩) ⟨true, u, lab⟩
  have e3 := sentP_len m l0 (Co.wrapL x l0 ⟨false, s, wrap64 (-lab)⟩)
  have e4 := sentP_len m l0 (Co.wrapL x (Co.wrapL x l0 ⟨false, s, wrap64 (-lab)⟩) ⟨true, u, lab⟩)
  have f3 : Wrd.kind u = 3 → Co.fitsB t x (Co.wrapL x l0 ⟨false, s, wrap64 (-lab)⟩) u = decide (∀ q ∈ Co.mb t u, q ∈ Co.showsP t x (Co.sentP m l0 (Co.wrapL x l0 ⟨false, s, wrap64 (-lab)⟩))) := fun hk => by
    rw [Bool.eq_iff_iff, decide_eq_true_iff]
    exact Co.cast_class h7 m l0 s u _ hk
  have f1 : Wrd.kind u = 1 → Co.fitsB t x (Co.wrapL x l0 ⟨false, s, wrap64 (-lab)⟩) u = false := fun hk => by
    have hb : Wrd.base u = true := by
      cases hb : Wrd.base u with
      | true => rfl
      | false =>
        unfold Wrd.kind at hk
        rw [hb] at hk
        simp at hk
        split at hk
        · cases hk
        · split at hk <;> cases hk
    have := (base_facts hb).2
    unfold Co.fitsB
    rw [hk, h7]
    simp [this]
  have f2 : Wrd.kind u = 2 → Co.fitsB t x (Co.wrapL x l0 ⟨false, s, wrap64 (-lab)⟩) u = true := fun hk => by
    unfold Co.fitsB
    rw [if_pos hk]
  have f0 : Wrd.kind u = 0 → Co.fitsB t x (Co.wrapL x l0 ⟨false, s, wrap64 (-lab)⟩) u = false := fun hk => by
    unfold Co.fitsB
    rw [hk]
    simp
  cases hF : Co.fitsB t x (Co.wrapL x l0 ⟨false, s, wrap64 (-lab)⟩) u with
  | true =>
    rw [hF] at f3 f1 f2 f0
    have hc : Co.sent m l0 (Co.castR t x l0 s u lab) = .ok (Co.sentP m l0 (Co.wrapL x (Co.wrapL x l0 ⟨false, s, wrap64 (-lab)⟩) ⟨true, u, lab⟩)) := by
      unfold Co.castR Co.enterR
      rw [if_pos hF]
      rfl
    obtain ⟨a1, a2⟩ := Co.again (t := t) (x := x) m l0 (Co.wrapL x l0 ⟨false, s, wrap64 (-lab)⟩) u lab hF
    refine ⟨_, _, _, _, true, ⟨rfl, by rw [hc]; rfl, by rw [hc]; rfl, Co.left_sub m l0 s _, ⟨by omega, by omega⟩, fun _ => ⟨rfl, rfl, Co.cast_sub m l0 s u _ lab, _, by rw [a1]; rfl, a2, ?_⟩, fun h => (by cases h), f3, f1, f2, f0⟩⟩
    have e5 := Co.wrapL_len x (Co.sentP m l0 (Co.wrapL x (Co.wrapL x l0 ⟨false, s, wrap64 (-lab)⟩) ⟨true, u, lab⟩)) ⟨true, u, lab⟩
    have e6 := sentP_len m (Co.sentP m l0 (Co.wrapL x (Co.wrapL x l0 ⟨false, s, wrap64 (-lab)⟩) ⟨true, u, lab⟩)) (Co.wrapL x (Co.sentP m l0 (Co.wrapL x (Co.wrapL x l0 ⟨false, s, wrap64 (-lab)⟩) ⟨true, u, lab⟩)) ⟨true, u, lab⟩)
    omega
  | false =>
    rw [hF] at f3 f1 f2 f0
    have hc : Co.sent m l0 (Co.castR t x l0 s u lab) = .error lab := by
      unfold Co.castR Co.enterR
      rw [if_neg (by rw [hF]; simp)]
      rfl
    exact ⟨_, _, _, _, false, ⟨rfl, by rw [hc]; rfl, by rw [hc]; rfl, Co.left_sub m l0 s _, ⟨by simp, by omega⟩, fun h => (by cases h), fun _ => ⟨rfl, rfl, rfl⟩, f3, f1, f2, f0⟩⟩

end Go.Proofs.YtdceafncncgfbaaDoor

/- CoerceShrinks: its walk. (gencsl16.py) -/
set_option linter.unusedSimpArgs false
set_option linter.unusedVariables false
set_option maxRecDepth 100000
namespace Go.Proofs.YtdceafncncgfbaaDoor
open Go.ChangeShapes Go.WideShapes Go.ChangeAt Go.RowKit Go.Shelf
attribute [local go_sem] Oper.semAt_some

theorem base_noq {u : ByteArray} (h : Wrd.base u = true) : ¬ u = ⟨#[63]⟩ := fun e => by
  subst e
  revert h
  decide
theorem kind_q {u : ByteArray} (h : Wrd.base u = false) (hq : u = ⟨#[63]⟩) : Wrd.kind u = 2 := by
  unfold Wrd.kind
  rw [h, if_pos hq]
  simp
theorem kind_0 {u : ByteArray} (h : Wrd.base u = false) (hq : ¬ u = ⟨#[63]⟩) (hc : Wrd.cls u = false) : Wrd.kind u = 0 := by
  unfold Wrd.kind
  rw [h, if_neg hq, hc]
  simp
theorem small_zW {v : Vw} (h : v = zW) : v.s.size ≤ maxLen := by rw [h]; exact small1 (by decide)

set_option maxHeartbeats 64000000 in
theorem cshrinks_c (t : List Tab.C) (a : Option Addr) (cp : Nat) (x : Vw) (va : Option Addr) (vc : Nat) (l : List Ly) (s u : ByteArray) (lab : Int) (m : Bool) (w : World) (hTb : Tb w) (hT : TabAt w (.slice a t.length cp) t)
    (hv : LysAt w (.slice va l.length vc) l) (hx : x.s.size ≤ maxLen) (hs : s.size ≤ maxLen) (hu : u.size ≤ maxLen) :
    Calls Tryd.prog 5 #[.slice a t.length cp, vV x (.slice va l.length vc), .string s, .string u, .int .i64 lab, .bool m] w fun e w' => e = .returned (.bool true) ∧ Kept w w' := by
  obtain ⟨W1, hW1⟩ : ∃ W, w.alloc (.cells #[.int .i64 x.tag, .int .i64 x.n, .int .u64 x.bits, .string x.s, .slice va l.length vc] uT) = W := ⟨_, rfl⟩
  have k1 : Kept w W1 := by rw [← hW1]; exact (Kept.refl _).alloc _
  have HB1 := Lib.hid (show Blk W1 w.heap.size uT #[.int .i64 x.tag, .int .i64 x.n, .int .u64 x.bits, .string x.s, .slice va l.length vc] by rw [← hW1]; exact Blk.new _ _ _)
  have HK := Lib.hid k1
  obtain ⟨g1, hg1⟩ : ∃ g, w.heap.size = g := ⟨_, rfl⟩
  rw [hg1] at HB1
  have HG1 := Lib.hid hg1
  have HTb := Lib.hid hTb
  have HT := Lib.hid hT
  have HV := Lib.hid hv
  have HX := Lib.hid hx
  have HSS := Lib.hid hs
  have HUU := Lib.hid hu
  have HW1 := Lib.hid hW1
  have huI : (u.size : Int) ≤ 9223372036854775807 := by unfold maxLen at hu; omega
  have hsI : (s.size : Int) ≤ 9223372036854775807 := by unfold maxLen at hs; omega
  clear k1 hW1 hTb hT hv hx hs hu
  go_enter Tryd.func5, Tryd.ntmps5
  go_wp2_with (first | rw [HW1.out] | rw [hg1])
  refine (known_c W1 (HTb.out.kept HK.out)).mono ?_
  rintro e w3 ⟨rfl, k3⟩
  have HK3 := Lib.hid (show Kept W1 w3 from k3)
  clear k3
  go_wp2_with fail
  refine (long_c t (.slice a t.length cp) w3 (tab_kept HT.out (HK.out.trans HK3.out))).mono ?_
  rintro e w4 ⟨⟨b1, rfl, hsh⟩, k4⟩
  have HK4 := Lib.hid (HK3.out.trans k4)
  have HSH := Lib.hid hsh
  clear k4 hsh HK3
  cases b1 with
  | true =>
    go_wp2_with fail
    go_ret
    exact ⟨rfl, HK.out.trans HK4.out⟩
  | false =>
  have HSM := Lib.hid (small_of_shortT (HSH.out rfl))
  clear HSH
  obtain ⟨⟨r0, r1, r2, r3, r4⟩, _⟩ := blk5u (HB1.out.kept HK4.out)
  go_wp2_with fail
  refine (longv_c x HX.out l va vc w4 (lys_kept HV.out (HK.out.trans HK4.out))).mono ?_
  rintro e w5 ⟨⟨b2, rfl, hsh⟩, k5⟩
  have HK5 := Lib.hid (HK4.out.trans k5)
  have HSH := Lib.hid hsh
  clear k5 hsh HK4 r0 r1 r2 r3 r4
  cases b2 with
  | true =>
    go_wp2_with fail
    go_ret
    exact ⟨rfl, HK.out.trans HK5.out⟩
  | false =>
  have HLX := Lib.hid (HSH.out rfl)
  clear HSH
  by_cases hs6 : (60 : Int) < s.size
  · go_wp2_with fail
    go_ret
    exact ⟨rfl, HK.out.trans HK5.out⟩
  by_cases hu6 : (60 : Int) < u.size
  · go_wp2_with fail
    go_ret
    exact ⟨rfl, HK.out.trans HK5.out⟩
  by_cases hlab : lab = 0
  · subst hlab
    go_wp2_with fail
    go_ret
    exact ⟨rfl, HK.out.trans HK5.out⟩
  have hlab2 : ¬ (0 : Int) = lab := fun e => hlab e.symm
  have hor : (decide ((60 : Int) < s.size) || decide ((60 : Int) < u.size) || lab == 0) = false := by simp [hs6, hu6, hlab]
  have hlb : (lab == 0) = false := by simpa using hlab
  have hlb2 : ((0 : Int) == lab) = false := by simpa using hlab2
  have HKW := Lib.hid (HK.out.trans HK5.out)
  have HB5 := Lib.hid (HB1.out.kept HK5.out)
  clear HB1 HK HK5 HW1
  cases m with
  | true =>
    obtain ⟨⟨r0, r1, r2, r3, r4⟩, _⟩ := blk5u (HB5.out)
    go_wp2_with fail
    clear r0 r1 r2 r3 r4
    refine (short_c x va vc l w5 (lys_kept HV.out HKW.out) (by have := HLX.out.2; omega)).mono ?_
    rintro e w6 ⟨ca, cc, rfl, hly, k6⟩
    have hl6 : (Chn.norm ky l).length ≤ 60 := Nat.le_trans (norm_le l) HLX.out.2
    obtain ⟨l0, hl0⟩ : ∃ q, Chn.norm ky l = q := ⟨_, rfl⟩
    rw [hl0] at hly hl6 ⊢
    have bV := HB5.out.kept k6
    obtain ⟨⟨q0, q1, q2, q3, q4⟩, s0, s1, s2, s3, s4⟩ := blk5u bV
    obtain ⟨U, hU⟩ : ∃ Y, put5u w6 g1 (.int .i64 x.tag) (.int .i64 x.n) (.int .u64 x.bits) (.string x.s) (.slice ca l0.length cc) = Y := ⟨_, rfl⟩
    have oU : Only (· = g1) w6 U := by rw [← hU]; exact put5u_only _ _ _ _ _ _ _
    have HBU := Lib.hid (show Blk U g1 uT #[.int .i64 x.tag, .int .i64 x.n, .int .u64 x.bits, .string x.s, .slice ca l0.length cc] by rw [← hU]; exact put5u_blk bV _ _ _ _ _)
    have HLU := Lib.hid (lys_putv hly bV oU)
    have HKU_ := Lib.hid (show Kept w U from (HKW.out.trans k6).only oU rfl (fun k e => by have := HG1.out; omega))
    have HWU := Lib.hid (show ((((w6.setCell ⟨g1, 0, none⟩ (.int .i64 x.tag)).setCell ⟨g1, 1, none⟩ (.int .i64 x.n)).setCell ⟨g1, 2, none⟩ (.int .u64 x.bits)).setCell ⟨g1, 3, none⟩ (.string x.s)).setCell ⟨g1, 4, none⟩ (.slice ca l0.length cc) = U from hU)
    have HL6 := Lib.hid hl6
    clear hly k6 hl0 bV oU hU hl6
    have HB := HBU
    have HLY := HLU
    have HL0 := HL6
    have HKU := HKU_
    by_cases h7 : x.tag = 7
    · have c7 : (x.tag != 7) = false := by rw [h7]; rfl
      obtain ⟨lL, vx, lx, bl, F, HS⟩ := shr_facts (t := t) h7 true l0 s u lab HL0.out
      have HSV := Lib.hid HS.val
      have HSB := Lib.hid HS.labl
      have HSL := Lib.hid HS.left
      have HSN := Lib.hid HS.len
      have HSU := Lib.hid HS.sub
      have HYES := Lib.hid HS.yes
      have HNO := Lib.hid HS.no
      have HK3 := Lib.hid HS.k3
      have HK1 := Lib.hid HS.k1
      have HK2 := Lib.hid HS.k2
      have HK0 := Lib.hid HS.k0
      clear HS h7
      cases F with
      | true =>
        obtain ⟨hb, hvx, hsub, ly, hent, hsame, hlen⟩ := HYES.out rfl
        subst hb
        rw [hvx] at HSV
        have HSUB := Lib.hid hsub
        have HENT := Lib.hid hent
        have HSAME := Lib.hid hsame
        have HLN := Lib.hid hlen
        clear hvx hsub hent hsame hlen HYES HNO
        obtain ⟨⟨r0, r1, r2, r3, r4⟩, _⟩ := blk5u (HB.out)
        go_wp2_with (first | rw [HWU.out])
        clear q0 q1 q2 q3 q4 s0 s1 s2 s3 s4 HWU
        have HCA := Lib.hid (show Calls Tryd.prog 25 #[.slice a t.length cp, vV x (.slice ca l0.length cc), .string s, .string u, .int .i64 lab, .bool true] U (AnsPost (x, lx) 0 U) from (ocast_c true x ca cc l0 a cp t s u lab U (tab_kept HT.out HKU.out) HSM.out (HTb.out.kept HKU.out) HLY.out HSS.out HUU.out HX.out (by have := HL0.out; omega)).mono (fun e w' h => by have := ans_of h; rwa [HSV.out, HSB.out] at this))
        clear r0 r1 r2 r3 r4
        refine (HCA.out).mono ?_
        rintro e pu ⟨pa, pc, rfl, hly, kn⟩
        obtain ⟨pv, hn⟩ : ∃ W, pu.alloc (.cells uZ uT) = W := ⟨_, rfl⟩
        obtain ⟨pq, hq⟩ : ∃ q, pu.heap.size = q := ⟨_, rfl⟩
        have km : Kept pu pv := by rw [← hn]; exact (Kept.refl _).alloc _
        have HQ := Lib.hid (show Blk pv pq uT uZ by rw [← hn, ← hq]; exact Blk.new _ _ _)
        have HAN := Lib.hid (lys_kept hly km)
        obtain ⟨⟨g0, g1_, g2, g3, g4⟩, f0, f1, f2, f3, f4⟩ := blk5u HQ.out
        obtain ⟨Z1, hY⟩ : ∃ Y, put5u pv pq (.int .i64 x.tag) (.int .i64 x.n) (.int .u64 x.bits) (.string x.s) (.slice pa lx.length pc) = Y := ⟨_, rfl⟩
        have oY : Only (· = pq) pv Z1 := by rw [← hY]; exact put5u_only _ _ _ _ _ _ _
        have HPB := Lib.hid (show Blk Z1 pq uT #[.int .i64 x.tag, .int .i64 x.n, .int .u64 x.bits, .string x.s, .slice pa lx.length pc] by rw [← hY]; exact put5u_blk HQ.out _ _ _ _ _)
        have hkY : Kept U Z1 := (kn.trans km).only oY rfl (fun k e => by have := kn.size; omega)
        have HPL := Lib.hid (show LysAt Z1 (.slice pa lx.length pc) lx from lys_put HAN.out HQ.out oY)
        have HKZ1 := Lib.hid ((show Kept w U from HKU.out).trans hkY)
        replace HB := Lib.hid (HB.out.kept hkY)
        replace HLY := Lib.hid (lys_kept HLY.out hkY)
        have HWN := Lib.hid hn
        have HWQ := Lib.hid hq
        have HWY := Lib.hid (show ((((pv.setCell ⟨pq, 0, none⟩ (.int .i64 x.tag)).setCell ⟨pq, 1, none⟩ (.int .i64 x.n)).setCell ⟨pq, 2, none⟩ (.int .u64 x.bits)).setCell ⟨pq, 3, none⟩ (.string x.s)).setCell ⟨pq, 4, none⟩ (.slice pa lx.length pc) = Z1 from hY)
        clear kn km hn hq oY hkY hY hly HQ HAN
        obtain ⟨⟨r0, r1, r2, r3, r4⟩, _⟩ := blk5u (HB.out)
        go_wp2_with (first | rw [HWN.out] | rw [HWQ.out] | rw [HWY.out])
        clear g0 g1_ g2 g3 g4 f0 f1 f2 f3 f4 HWN HWQ HWY
        clear r0 r1 r2 r3 r4
        refine ((oleave_c true x ca cc l0 a cp t s (wrap64 (-lab)) Z1 (tab_kept HT.out HKZ1.out) HSM.out (HTb.out.kept HKZ1.out) HLY.out HSS.out HX.out (by have := HL0.out; omega)).mono (fun e w' h => show LeavePost x lL Z1 e w' by have := h; rwa [HSL.out] at this)).mono ?_
        rintro e nu ⟨kn, na, nc, rfl, hrow, hfi⟩
        have hly := owns_lys hrow hfi
        clear hrow hfi
        obtain ⟨nv, hn⟩ : ∃ W, nu.alloc (.cells uZ uT) = W := ⟨_, rfl⟩
        obtain ⟨nq, hq⟩ : ∃ q, nu.heap.size = q := ⟨_, rfl⟩
        have km : Kept nu nv := by rw [← hn]; exact (Kept.refl _).alloc _
        have HQ := Lib.hid (show Blk nv nq uT uZ by rw [← hn, ← hq]; exact Blk.new _ _ _)
        have HAN := Lib.hid (lys_kept hly km)
        obtain ⟨⟨g0, g1_, g2, g3, g4⟩, f0, f1, f2, f3, f4⟩ := blk5u HQ.out
        obtain ⟨Z2, hY⟩ : ∃ Y, put5u nv nq (.int .i64 x.tag) (.int .i64 x.n) (.int .u64 x.bits) (.string x.s) (.slice na lL.length nc) = Y := ⟨_, rfl⟩
        have oY : Only (· = nq) nv Z2 := by rw [← hY]; exact put5u_only _ _ _ _ _ _ _
        have HNB := Lib.hid (show Blk Z2 nq uT #[.int .i64 x.tag, .int .i64 x.n, .int .u64 x.bits, .string x.s, .slice na lL.length nc] by rw [← hY]; exact put5u_blk HQ.out _ _ _ _ _)
        have hkY : Kept Z1 Z2 := (kn.trans km).only oY rfl (fun k e => by have := kn.size; omega)
        have HNL := Lib.hid (show LysAt Z2 (.slice na lL.length nc) lL from lys_put HAN.out HQ.out oY)
        have HKZ2 := Lib.hid ((show Kept w Z1 from HKZ1.out).trans hkY)
        replace HB := Lib.hid (HB.out.kept hkY)
        replace HLY := Lib.hid (lys_kept HLY.out hkY)
        replace HPB := Lib.hid (HPB.out.kept hkY)
        replace HPL := Lib.hid (lys_kept HPL.out hkY)
        have HWN := Lib.hid hn
        have HWQ := Lib.hid hq
        have HWY := Lib.hid (show ((((nv.setCell ⟨nq, 0, none⟩ (.int .i64 x.tag)).setCell ⟨nq, 1, none⟩ (.int .i64 x.n)).setCell ⟨nq, 2, none⟩ (.int .u64 x.bits)).setCell ⟨nq, 3, none⟩ (.string x.s)).setCell ⟨nq, 4, none⟩ (.slice na lL.length nc) = Z2 from hY)
        clear kn km hn hq oY hkY hY hly HQ HAN
        obtain ⟨D, hD⟩ : ∃ D, Z2.drew = D := ⟨_, rfl⟩
        have kD : Kept Z2 D := by rw [← hD]; exact (Kept.refl _).drew
        replace HB := Lib.hid (HB.out.kept kD)
        replace HLY := Lib.hid (lys_kept HLY.out kD)
        replace HPB := Lib.hid (HPB.out.kept kD)
        replace HPL := Lib.hid (lys_kept HPL.out kD)
        replace HNB := Lib.hid (HNB.out.kept kD)
        replace HNL := Lib.hid (lys_kept HNL.out kD)
        have HKD := Lib.hid (HKZ2.out.trans kD)
        clear kD HKZ1
        go_wp2_with (first | rw [HWN.out] | rw [HWQ.out] | rw [HWY.out])
        clear g0 g1_ g2 g3 g4 f0 f1 f2 f3 f4 HWN HWQ HWY
        obtain ⟨⟨r0, r1, r2, r3, r4⟩, _⟩ := blk5u (HB.out)
        obtain ⟨⟨t0, t1, t2, t3, t4⟩, _⟩ := blk5u (HPB.out)
        obtain ⟨⟨j0, j1, j2, j3, j4⟩, _⟩ := blk5u (HNB.out)
        have hS := fun W (k : Kept D W) => And.intro (k.cell r0) (And.intro (k.cell r1) (And.intro (k.cell r2) (And.intro (k.cell r3) (And.intro (k.cell r4) (And.intro (k.cell t0) (And.intro (k.cell t1) (And.intro (k.cell t2) (And.intro (k.cell t3) (And.intro (k.cell t4) (And.intro (k.cell j0) (And.intro (k.cell j1) (And.intro (k.cell j2) (And.intro (k.cell j3) (k.cell j4))))))))))))))
        refine wp_region_held_drew (S := (fun W => W.cell? ⟨g1, 0, none⟩ = some (.int .i64 x.tag) ∧ W.cell? ⟨g1, 1, none⟩ = some (.int .i64 x.n) ∧ W.cell? ⟨g1, 2, none⟩ = some (.int .u64 x.bits) ∧ W.cell? ⟨g1, 3, none⟩ = some (.string x.s) ∧ W.cell? ⟨g1, 4, none⟩ = some (.slice ca l0.length cc) ∧ W.cell? ⟨pq, 0, none⟩ = some (.int .i64 x.tag) ∧ W.cell? ⟨pq, 1, none⟩ = some (.int .i64 x.n) ∧ W.cell? ⟨pq, 2, none⟩ = some (.int .u64 x.bits) ∧ W.cell? ⟨pq, 3, none⟩ = some (.string x.s) ∧ W.cell? ⟨pq, 4, none⟩ = some (.slice pa lx.length pc) ∧ W.cell? ⟨nq, 0, none⟩ = some (.int .i64 x.tag) ∧ W.cell? ⟨nq, 1, none⟩ = some (.int .i64 x.n) ∧ W.cell? ⟨nq, 2, none⟩ = some (.int .u64 x.bits) ∧ W.cell? ⟨nq, 3, none⟩ = some (.string x.s) ∧ W.cell? ⟨nq, 4, none⟩ = some (.slice na lL.length nc))) (by kernel_rfl) (by rw [hD]; exact hS D (Kept.refl _)) (fun hHeld0 => ?_)
        rw [hD] at hHeld0 ⊢
        clear hD
        have kq : Kept D D := Kept.refl _
        refine wpAnyH_take (i := 0) (v := ?_) rfl (by kernel_rfl) (by kernel_rfl) (by kernel_rfl) (fun _ _ _ h => h) (Or.inl ⟨by kernel_rfl, ?_⟩) (by assumption) ?_
        rotate_left
        · intro w hSw; (try dsimp only at hSw); go_simp; (try with_reducible rfl)
        (try simp only [Act.put, List.getElem_toArray, List.getElem_cons_zero, List.getElem_cons_succ, List.setIfInBounds_toArray, List.set_cons_zero, List.set_cons_succ])
        refine wpAnyH_take (i := 1) (v := ?_) rfl (by kernel_rfl) (by kernel_rfl) (by kernel_rfl) (fun _ _ _ h => h) (Or.inl ⟨by kernel_rfl, ?_⟩) (by assumption) ?_
        rotate_left
        · intro w hSw; (try dsimp only at hSw); go_simp; (try with_reducible rfl)
        (try simp only [Act.put, List.getElem_toArray, List.getElem_cons_zero, List.getElem_cons_succ, List.setIfInBounds_toArray, List.set_cons_zero, List.set_cons_succ])
        refine wpAnyH_take (i := 3) (v := ?_) rfl (by kernel_rfl) (by kernel_rfl) (by kernel_rfl) (fun _ _ _ h => h) (Or.inl ⟨by kernel_rfl, ?_⟩) (by assumption) ?_
        rotate_left
        · intro w hSw; (try dsimp only at hSw); go_simp; (try with_reducible rfl)
        (try simp only [Act.put, List.getElem_toArray, List.getElem_cons_zero, List.getElem_cons_succ, List.setIfInBounds_toArray, List.set_cons_zero, List.set_cons_succ])
        refine wpAnyH_take (i := 4) (v := ?_) rfl (by kernel_rfl) (by kernel_rfl) (by kernel_rfl) (fun _ _ _ h => h) (Or.inl ⟨by kernel_rfl, ?_⟩) (by assumption) ?_
        rotate_left
        · intro w hSw; (try dsimp only at hSw); go_simp; (try with_reducible rfl)
        (try simp only [Act.put, List.getElem_toArray, List.getElem_cons_zero, List.getElem_cons_succ, List.setIfInBounds_toArray, List.set_cons_zero, List.set_cons_succ])
        refine wpAnyH_take (i := 6) (v := ?_) rfl (by kernel_rfl) (by kernel_rfl) (by kernel_rfl) (fun _ _ _ h => h) (Or.inl ⟨by kernel_rfl, ?_⟩) (by assumption) ?_
        rotate_left
        · intro w hSw; (try dsimp only at hSw); go_simp; (try with_reducible rfl)
        (try simp only [Act.put, List.getElem_toArray, List.getElem_cons_zero, List.getElem_cons_succ, List.setIfInBounds_toArray, List.set_cons_zero, List.set_cons_succ])
        refine wpAnyH_take (i := 7) (v := ?_) rfl (by kernel_rfl) (by kernel_rfl) (by kernel_rfl) (fun _ _ _ h => h) (Or.inl ⟨by kernel_rfl, ?_⟩) (by assumption) ?_
        rotate_left
        · intro w hSw; (try dsimp only at hSw); go_simp; (try with_reducible rfl)
        (try simp only [Act.put, List.getElem_toArray, List.getElem_cons_zero, List.getElem_cons_succ, List.setIfInBounds_toArray, List.set_cons_zero, List.set_cons_succ])
        refine wpAnyH_ready (rs := [2]) (by kernel_rfl) (by simp) ?_
        refine AllReadyH.cons rfl (fun K hK => ?_) AllReadyH.nil
        go_simp
        refine (shows_c x ca cc l0 a cp t D (tab_kept HT.out (HKD.out.trans kq)) HSM.out (lys_kept HLY.out kq) HX.out (by have := HL0.out; have := HSN.out; omega)).mono ?_
        rintro e y1 ⟨ba, bc, rfl, hmb, kn⟩
        have HM0 := Lib.hid hmb
        clear hmb
        replace kq := kq.trans kn
        clear kn
        refine hK.out _ _ (hS _ kq) (fun hHeld1 => ?_)
        clear hK K
        (try simp only [Act.put, List.getElem_toArray, List.getElem_cons_zero, List.getElem_cons_succ, List.setIfInBounds_toArray, List.set_cons_zero, List.set_cons_succ])
        refine wpAnyH_ready (rs := [5]) (by kernel_rfl) (by simp) ?_
        refine AllReadyH.cons rfl (fun K hK => ?_) AllReadyH.nil
        go_simp
        refine (shows_c x na nc lL a cp t y1 (tab_kept HT.out (HKD.out.trans kq)) HSM.out (lys_kept HNL.out kq) HX.out (by have := HL0.out; have := HSN.out; omega)).mono ?_
        rintro e y2 ⟨da, dc, rfl, hmb, kn⟩
        have HM1 := Lib.hid hmb
        clear hmb
        replace HM0 := Lib.hid (HM0.out.kept kn)
        replace kq := kq.trans kn
        clear kn
        refine hK.out _ _ (hS _ kq) (fun hHeld2 => ?_)
        clear hK K
        (try simp only [Act.put, List.getElem_toArray, List.getElem_cons_zero, List.getElem_cons_succ, List.setIfInBounds_toArray, List.set_cons_zero, List.set_cons_succ])
        refine wpAnyH_ready (rs := [8]) (by kernel_rfl) (by simp) ?_
        refine AllReadyH.cons rfl (fun K hK => ?_) AllReadyH.nil
        go_simp
        refine (shows_c x pa pc lx a cp t y2 (tab_kept HT.out (HKD.out.trans kq)) HSM.out (lys_kept HPL.out kq) HX.out (by have := HL0.out; have := HSN.out; omega)).mono ?_
        rintro e y3 ⟨fa, fc, rfl, hmb, kn⟩
        have HM2 := Lib.hid hmb
        clear hmb
        replace HM0 := Lib.hid (HM0.out.kept kn)
        replace HM1 := Lib.hid (HM1.out.kept kn)
        replace kq := kq.trans kn
        clear kn
        refine hK.out _ _ (hS _ kq) (fun hHeld3 => ?_)
        clear hK K
        (try simp only [Act.put, List.getElem_toArray, List.getElem_cons_zero, List.getElem_cons_succ, List.setIfInBounds_toArray, List.set_cons_zero, List.set_cons_succ])
        refine wpAnyH_take (i := 9) (v := ?_) rfl (by kernel_rfl) (by kernel_rfl) (by kernel_rfl) (fun _ _ _ h => h) (Or.inl ⟨by kernel_rfl, ?_⟩) (by assumption) ?_
        rotate_left
        · intro w hSw; (try dsimp only at hSw); go_simp; (try with_reducible rfl)
        (try simp only [Act.put, List.getElem_toArray, List.getElem_cons_zero, List.getElem_cons_succ, List.setIfInBounds_toArray, List.set_cons_zero, List.set_cons_succ])
        refine wpAnyH_take (i := 10) (v := ?_) rfl (by kernel_rfl) (by kernel_rfl) (by kernel_rfl) (fun _ _ _ h => h) (Or.inl ⟨by kernel_rfl, ?_⟩) (by assumption) ?_
        rotate_left
        · intro w hSw; (try dsimp only at hSw); go_simp; (try with_reducible rfl)
        (try simp only [Act.put, List.getElem_toArray, List.getElem_cons_zero, List.getElem_cons_succ, List.setIfInBounds_toArray, List.set_cons_zero, List.set_cons_succ])
        refine wpAnyH_take (i := 11) (v := ?_) rfl (by kernel_rfl) (by kernel_rfl) (by kernel_rfl) (fun _ _ _ h => h) (Or.inl ⟨by kernel_rfl, ?_⟩) (by assumption) ?_
        rotate_left
        · intro w hSw; (try dsimp only at hSw); go_simp; (try with_reducible rfl)
        (try simp only [Act.put, List.getElem_toArray, List.getElem_cons_zero, List.getElem_cons_succ, List.setIfInBounds_toArray, List.set_cons_zero, List.set_cons_succ])
        refine wpAnyH_done (by kernel_rfl) ?_ _
        have HKQ := Lib.hid kq
        clear kq hS
        clear r0 r1 r2 r3 r4 t0 t1 t2 t3 t4 j0 j1 j2 j3 j4
        go_wp2_with fail
        refine ((within_c (Co.showsP t x lL) (Co.showsP t x l0) da ba dc bc y3 HM1.out HM0.out (shows_len HSM.out _ _) (shows_len HSM.out _ _)).mono (fun e w' h => show e = .returned (.bool true) ∧ Kept y3 w' by rwa [decide_eq_true (show ∀ q ∈ Co.showsP t x lL, q ∈ Co.showsP t x l0 from HSU.out)] at h)).mono ?_
        rintro e y4 ⟨rfl, ky4⟩
        have HKE := Lib.hid (show Kept y3 y4 from ky4)
        clear ky4
        go_wp2_with fail
        refine ((within_c (Co.showsP t x lx) (Co.showsP t x lL) fa da fc dc y4 (HM2.out.kept HKE.out) (HM1.out.kept HKE.out) (shows_len HSM.out _ _) (shows_len HSM.out _ _)).mono (fun e w' h => show e = .returned (.bool true) ∧ Kept y4 w' by rwa [decide_eq_true (show ∀ q ∈ Co.showsP t x lx, q ∈ Co.showsP t x lL from HSUB.out)] at h)).mono ?_
        rintro e y5 ⟨rfl, ky5⟩
        replace HKE := Lib.hid (HKE.out.trans ky5)
        clear ky5
        cases hcls : Wrd.cls u with
        | true =>
          obtain ⟨hbase, hk3, hq⟩ := cls_facts hcls
          have HDEC := Lib.hid (HK3.out hk3)
          have hqb : (u.toList == [63]) = false := lit_no hq
          clear hk3
          have HCC := Lib.hid ((class_c u y5 (by have := HUU.out; unfold maxLen at this; omega)).mono (fun e w' h => show e = .returned (.bool true) ∧ Kept y5 w' by rwa [hcls] at h))
          clear hcls hq
          go_wp2_with fail
          refine (HCC.out).mono ?_
          rintro e y6 ⟨rfl, ky6⟩
          replace HKE := Lib.hid (HKE.out.trans ky6)
          clear ky6 HCC
          go_wp2_with fail
          refine (membersM_c a cp t u y6 (tab_kept HT.out (HKD.out.trans (HKQ.out.trans HKE.out))) HSM.out).mono ?_
          rintro e y7 ⟨ma, mc, rfl, hmm, k7⟩
          replace HKE := Lib.hid (HKE.out.trans k7)
          have HMM := Lib.hid hmm
          clear k7 hmm
          go_wp2_with fail
          refine ((within_c (Tab.members t u) (Co.showsP t x lL) ma da mc dc y7 HMM.out (HM1.out.kept HKE.out) (Nat.le_trans (members_le HSM.out _) (by decide)) (shows_len HSM.out _ _)).mono (fun e w' h => show e = .returned (.bool true) ∧ Kept y7 w' by have h2 := h; rwa [← HDEC.out] at h2)).mono ?_
          rintro e y8 ⟨rfl, ky8⟩
          replace HKE := Lib.hid (HKE.out.trans ky8)
          clear ky8
          have HBC := Lib.hid ((base_c u y8 (HTb.out.kept (HKD.out.trans (HKQ.out.trans HKE.out)))).mono (fun e w' h => show e = .returned (.bool false) ∧ Kept y8 w' by rwa [hbase] at h))
          clear hbase
          go_wp2_with fail
          refine (HBC.out).mono ?_
          rintro e y9 ⟨rfl, ky9⟩
          replace HKE := Lib.hid (HKE.out.trans ky9)
          clear ky9 HBC
          obtain ⟨⟨t0, t1, t2, t3, t4⟩, _⟩ := blk5u (HPB.out.kept (HKQ.out.trans HKE.out))
          go_wp2_with fail
          clear t0 t1 t2 t3 t4
          have HM2W := Lib.hid (HM2.out.kept HKE.out)
          replace HB := Lib.hid (HB.out.kept (HKQ.out.trans HKE.out))
          refine ((oenter_c true x pa pc lx a cp t u lab y9 (tab_kept HT.out (HKD.out.trans (HKQ.out.trans HKE.out))) HSM.out (HTb.out.kept (HKD.out.trans (HKQ.out.trans HKE.out))) (lys_kept HPL.out (HKQ.out.trans HKE.out)) HUU.out HX.out (by have := HSN.out; omega)).mono (fun e w' h => show AnsPost (x, ly) 0 y9 e w' by have := ans_of h; rwa [HENT.out] at this)).mono ?_
          rintro e su ⟨sa, sc, rfl, hly, kn⟩
          obtain ⟨sv, hn⟩ : ∃ W, su.alloc (.cells uZ uT) = W := ⟨_, rfl⟩
          obtain ⟨sq, hq⟩ : ∃ q, su.heap.size = q := ⟨_, rfl⟩
          have km : Kept su sv := by rw [← hn]; exact (Kept.refl _).alloc _
          have HQ := Lib.hid (show Blk sv sq uT uZ by rw [← hn, ← hq]; exact Blk.new _ _ _)
          have HAN := Lib.hid (lys_kept hly km)
          obtain ⟨⟨g0, g1_, g2, g3, g4⟩, f0, f1, f2, f3, f4⟩ := blk5u HQ.out
          obtain ⟨Z4, hY⟩ : ∃ Y, put5u sv sq (.int .i64 x.tag) (.int .i64 x.n) (.int .u64 x.bits) (.string x.s) (.slice sa ly.length sc) = Y := ⟨_, rfl⟩
          have oY : Only (· = sq) sv Z4 := by rw [← hY]; exact put5u_only _ _ _ _ _ _ _
          have HSB := Lib.hid (show Blk Z4 sq uT #[.int .i64 x.tag, .int .i64 x.n, .int .u64 x.bits, .string x.s, .slice sa ly.length sc] by rw [← hY]; exact put5u_blk HQ.out _ _ _ _ _)
          have hkY : Kept y9 Z4 := (kn.trans km).only oY rfl (fun k e => by have := kn.size; omega)
          have HSL := Lib.hid (show LysAt Z4 (.slice sa ly.length sc) ly from lys_put HAN.out HQ.out oY)
          have HKZ4 := Lib.hid ((show Kept w y9 from (HKD.out.trans (HKQ.out.trans HKE.out))).trans hkY)
          replace HM2W := Lib.hid (HM2W.out.kept hkY)
          replace HB := Lib.hid (HB.out.kept hkY)
          have HWN := Lib.hid hn
          have HWQ := Lib.hid hq
          have HWY := Lib.hid (show ((((sv.setCell ⟨sq, 0, none⟩ (.int .i64 x.tag)).setCell ⟨sq, 1, none⟩ (.int .i64 x.n)).setCell ⟨sq, 2, none⟩ (.int .u64 x.bits)).setCell ⟨sq, 3, none⟩ (.string x.s)).setCell ⟨sq, 4, none⟩ (.slice sa ly.length sc) = Z4 from hY)
          clear kn km hn hq oY hkY hY hly HQ HAN
          obtain ⟨⟨r0, r1, r2, r3, r4⟩, _⟩ := blk5u (HB.out)
          obtain ⟨⟨t0, t1, t2, t3, t4⟩, _⟩ := blk5u (HSB.out)
          go_wp2_with (first | rw [HWN.out] | rw [HWQ.out] | rw [HWY.out])
          clear g0 g1_ g2 g3 g4 f0 f1 f2 f3 f4 HWN HWQ HWY
          refine (shows_c x sa sc ly a cp t Z4 (tab_kept HT.out HKZ4.out) HSM.out HSL.out HX.out (by have := HLN.out; omega)).mono ?_
          rintro e z7 ⟨ga, gc, rfl, hmb, k7⟩
          rw [HSAME.out] at hmb ⊢
          have HMG := Lib.hid hmb
          have HK7 := Lib.hid k7
          clear hmb k7
          go_wp2_with fail
          refine (sameM_y (Co.showsP t x lx) ga fa gc fc z7 HMG.out (HM2W.out.kept HK7.out) (shows_len HSM.out _ _)).mono ?_
          rintro e z8 ⟨rfl, kz8⟩
          go_wp2_with fail
          go_ret
          exact ⟨rfl, (HKZ4.out.trans HK7.out).trans kz8⟩
        | false =>
          have HCC := Lib.hid ((class_c u y5 (by have := HUU.out; unfold maxLen at this; omega)).mono (fun e w' h => show e = .returned (.bool false) ∧ Kept y5 w' by rwa [hcls] at h))
          go_wp2_with fail
          refine (HCC.out).mono ?_
          rintro e y6 ⟨rfl, ky6⟩
          replace HKE := Lib.hid (HKE.out.trans ky6)
          clear ky6 HCC
          cases hbase : Wrd.base u with
          | true =>
            exact absurd (HK1.out (base_facts hbase).1) (by simp)
          | false =>
            by_cases hq : u = ⟨#[63]⟩
            · skip
              have hqb : (u.toList == [63]) = true := lit_yes hq
              have HBC := Lib.hid ((base_c u y6 (HTb.out.kept (HKD.out.trans (HKQ.out.trans HKE.out)))).mono (fun e w' h => show e = .returned (.bool false) ∧ Kept y6 w' by rwa [hbase] at h))
              clear hbase hcls hq
              go_wp2_with fail
              refine (HBC.out).mono ?_
              rintro e y9 ⟨rfl, ky9⟩
              replace HKE := Lib.hid (HKE.out.trans ky9)
              clear ky9 HBC
              obtain ⟨⟨t0, t1, t2, t3, t4⟩, _⟩ := blk5u (HPB.out.kept (HKQ.out.trans HKE.out))
              go_wp2_with fail
              clear t0 t1 t2 t3 t4
              have HM2W := Lib.hid (HM2.out.kept HKE.out)
              replace HB := Lib.hid (HB.out.kept (HKQ.out.trans HKE.out))
              refine ((oenter_c true x pa pc lx a cp t u lab y9 (tab_kept HT.out (HKD.out.trans (HKQ.out.trans HKE.out))) HSM.out (HTb.out.kept (HKD.out.trans (HKQ.out.trans HKE.out))) (lys_kept HPL.out (HKQ.out.trans HKE.out)) HUU.out HX.out (by have := HSN.out; omega)).mono (fun e w' h => show AnsPost (x, ly) 0 y9 e w' by have := ans_of h; rwa [HENT.out] at this)).mono ?_
              rintro e su ⟨sa, sc, rfl, hly, kn⟩
              obtain ⟨sv, hn⟩ : ∃ W, su.alloc (.cells uZ uT) = W := ⟨_, rfl⟩
              obtain ⟨sq, hq⟩ : ∃ q, su.heap.size = q := ⟨_, rfl⟩
              have km : Kept su sv := by rw [← hn]; exact (Kept.refl _).alloc _
              have HQ := Lib.hid (show Blk sv sq uT uZ by rw [← hn, ← hq]; exact Blk.new _ _ _)
              have HAN := Lib.hid (lys_kept hly km)
              obtain ⟨⟨g0, g1_, g2, g3, g4⟩, f0, f1, f2, f3, f4⟩ := blk5u HQ.out
              obtain ⟨Z4, hY⟩ : ∃ Y, put5u sv sq (.int .i64 x.tag) (.int .i64 x.n) (.int .u64 x.bits) (.string x.s) (.slice sa ly.length sc) = Y := ⟨_, rfl⟩
              have oY : Only (· = sq) sv Z4 := by rw [← hY]; exact put5u_only _ _ _ _ _ _ _
              have HSB := Lib.hid (show Blk Z4 sq uT #[.int .i64 x.tag, .int .i64 x.n, .int .u64 x.bits, .string x.s, .slice sa ly.length sc] by rw [← hY]; exact put5u_blk HQ.out _ _ _ _ _)
              have hkY : Kept y9 Z4 := (kn.trans km).only oY rfl (fun k e => by have := kn.size; omega)
              have HSL := Lib.hid (show LysAt Z4 (.slice sa ly.length sc) ly from lys_put HAN.out HQ.out oY)
              have HKZ4 := Lib.hid ((show Kept w y9 from (HKD.out.trans (HKQ.out.trans HKE.out))).trans hkY)
              replace HM2W := Lib.hid (HM2W.out.kept hkY)
              replace HB := Lib.hid (HB.out.kept hkY)
              have HWN := Lib.hid hn
              have HWQ := Lib.hid hq
              have HWY := Lib.hid (show ((((sv.setCell ⟨sq, 0, none⟩ (.int .i64 x.tag)).setCell ⟨sq, 1, none⟩ (.int .i64 x.n)).setCell ⟨sq, 2, none⟩ (.int .u64 x.bits)).setCell ⟨sq, 3, none⟩ (.string x.s)).setCell ⟨sq, 4, none⟩ (.slice sa ly.length sc) = Z4 from hY)
              clear kn km hn hq oY hkY hY hly HQ HAN
              obtain ⟨⟨r0, r1, r2, r3, r4⟩, _⟩ := blk5u (HB.out)
              obtain ⟨⟨t0, t1, t2, t3, t4⟩, _⟩ := blk5u (HSB.out)
              go_wp2_with (first | rw [HWN.out] | rw [HWQ.out] | rw [HWY.out])
              clear g0 g1_ g2 g3 g4 f0 f1 f2 f3 f4 HWN HWQ HWY
              refine (shows_c x sa sc ly a cp t Z4 (tab_kept HT.out HKZ4.out) HSM.out HSL.out HX.out (by have := HLN.out; omega)).mono ?_
              rintro e z7 ⟨ga, gc, rfl, hmb, k7⟩
              rw [HSAME.out] at hmb ⊢
              have HMG := Lib.hid hmb
              have HK7 := Lib.hid k7
              clear hmb k7
              go_wp2_with fail
              refine (sameM_y (Co.showsP t x lx) ga fa gc fc z7 HMG.out (HM2W.out.kept HK7.out) (shows_len HSM.out _ _)).mono ?_
              rintro e z8 ⟨rfl, kz8⟩
              go_wp2_with fail
              go_ret
              exact ⟨rfl, (HKZ4.out.trans HK7.out).trans kz8⟩
            · exact absurd (HK0.out (kind_0 hbase hq hcls)) (by simp)
      | false =>
        obtain ⟨hb, hvx, hlx⟩ := HNO.out rfl
        rw [hb] at HSB
        have HVX := Lib.hid hvx
        have HVL := Lib.hid hlx
        clear hvx hlx hb HYES HNO
        obtain ⟨⟨r0, r1, r2, r3, r4⟩, _⟩ := blk5u (HB.out)
        go_wp2_with (first | rw [HWU.out])
        clear q0 q1 q2 q3 q4 s0 s1 s2 s3 s4 HWU
        have HCA := Lib.hid (show Calls Tryd.prog 25 #[.slice a t.length cp, vV x (.slice ca l0.length cc), .string s, .string u, .int .i64 lab, .bool true] U (AnsPost (vx, lx) lab U) from (ocast_c true x ca cc l0 a cp t s u lab U (tab_kept HT.out HKU.out) HSM.out (HTb.out.kept HKU.out) HLY.out HSS.out HUU.out HX.out (by have := HL0.out; omega)).mono (fun e w' h => by have := ans_of h; rwa [HSV.out, HSB.out] at this))
        clear r0 r1 r2 r3 r4
        refine (HCA.out).mono ?_
        rintro e pu ⟨pa, pc, rfl, hly, kn⟩
        obtain ⟨pv, hn⟩ : ∃ W, pu.alloc (.cells uZ uT) = W := ⟨_, rfl⟩
        obtain ⟨pq, hq⟩ : ∃ q, pu.heap.size = q := ⟨_, rfl⟩
        have km : Kept pu pv := by rw [← hn]; exact (Kept.refl _).alloc _
        have HQ := Lib.hid (show Blk pv pq uT uZ by rw [← hn, ← hq]; exact Blk.new _ _ _)
        have HAN := Lib.hid (lys_kept hly km)
        obtain ⟨⟨g0, g1_, g2, g3, g4⟩, f0, f1, f2, f3, f4⟩ := blk5u HQ.out
        obtain ⟨Z1, hY⟩ : ∃ Y, put5u pv pq (.int .i64 vx.tag) (.int .i64 vx.n) (.int .u64 vx.bits) (.string vx.s) (.slice pa lx.length pc) = Y := ⟨_, rfl⟩
        have oY : Only (· = pq) pv Z1 := by rw [← hY]; exact put5u_only _ _ _ _ _ _ _
        have HPB := Lib.hid (show Blk Z1 pq uT #[.int .i64 vx.tag, .int .i64 vx.n, .int .u64 vx.bits, .string vx.s, .slice pa lx.length pc] by rw [← hY]; exact put5u_blk HQ.out _ _ _ _ _)
        have hkY : Kept U Z1 := (kn.trans km).only oY rfl (fun k e => by have := kn.size; omega)
        have HPL := Lib.hid (show LysAt Z1 (.slice pa lx.length pc) lx from lys_put HAN.out HQ.out oY)
        have HKZ1 := Lib.hid ((show Kept w U from HKU.out).trans hkY)
        replace HB := Lib.hid (HB.out.kept hkY)
        replace HLY := Lib.hid (lys_kept HLY.out hkY)
        have HWN := Lib.hid hn
        have HWQ := Lib.hid hq
        have HWY := Lib.hid (show ((((pv.setCell ⟨pq, 0, none⟩ (.int .i64 vx.tag)).setCell ⟨pq, 1, none⟩ (.int .i64 vx.n)).setCell ⟨pq, 2, none⟩ (.int .u64 vx.bits)).setCell ⟨pq, 3, none⟩ (.string vx.s)).setCell ⟨pq, 4, none⟩ (.slice pa lx.length pc) = Z1 from hY)
        clear kn km hn hq oY hkY hY hly HQ HAN
        obtain ⟨⟨r0, r1, r2, r3, r4⟩, _⟩ := blk5u (HB.out)
        go_wp2_with (first | rw [HWN.out] | rw [HWQ.out] | rw [HWY.out])
        clear g0 g1_ g2 g3 g4 f0 f1 f2 f3 f4 HWN HWQ HWY
        clear r0 r1 r2 r3 r4
        refine ((oleave_c true x ca cc l0 a cp t s (wrap64 (-lab)) Z1 (tab_kept HT.out HKZ1.out) HSM.out (HTb.out.kept HKZ1.out) HLY.out HSS.out HX.out (by have := HL0.out; omega)).mono (fun e w' h => show LeavePost x lL Z1 e w' by have := h; rwa [HSL.out] at this)).mono ?_
        rintro e nu ⟨kn, na, nc, rfl, hrow, hfi⟩
        have hly := owns_lys hrow hfi
        clear hrow hfi
        obtain ⟨nv, hn⟩ : ∃ W, nu.alloc (.cells uZ uT) = W := ⟨_, rfl⟩
        obtain ⟨nq, hq⟩ : ∃ q, nu.heap.size = q := ⟨_, rfl⟩
        have km : Kept nu nv := by rw [← hn]; exact (Kept.refl _).alloc _
        have HQ := Lib.hid (show Blk nv nq uT uZ by rw [← hn, ← hq]; exact Blk.new _ _ _)
        have HAN := Lib.hid (lys_kept hly km)
        obtain ⟨⟨g0, g1_, g2, g3, g4⟩, f0, f1, f2, f3, f4⟩ := blk5u HQ.out
        obtain ⟨Z2, hY⟩ : ∃ Y, put5u nv nq (.int .i64 x.tag) (.int .i64 x.n) (.int .u64 x.bits) (.string x.s) (.slice na lL.length nc) = Y := ⟨_, rfl⟩
        have oY : Only (· = nq) nv Z2 := by rw [← hY]; exact put5u_only _ _ _ _ _ _ _
        have HNB := Lib.hid (show Blk Z2 nq uT #[.int .i64 x.tag, .int .i64 x.n, .int .u64 x.bits, .string x.s, .slice na lL.length nc] by rw [← hY]; exact put5u_blk HQ.out _ _ _ _ _)
        have hkY : Kept Z1 Z2 := (kn.trans km).only oY rfl (fun k e => by have := kn.size; omega)
        have HNL := Lib.hid (show LysAt Z2 (.slice na lL.length nc) lL from lys_put HAN.out HQ.out oY)
        have HKZ2 := Lib.hid ((show Kept w Z1 from HKZ1.out).trans hkY)
        replace HB := Lib.hid (HB.out.kept hkY)
        replace HLY := Lib.hid (lys_kept HLY.out hkY)
        replace HPB := Lib.hid (HPB.out.kept hkY)
        replace HPL := Lib.hid (lys_kept HPL.out hkY)
        have HWN := Lib.hid hn
        have HWQ := Lib.hid hq
        have HWY := Lib.hid (show ((((nv.setCell ⟨nq, 0, none⟩ (.int .i64 x.tag)).setCell ⟨nq, 1, none⟩ (.int .i64 x.n)).setCell ⟨nq, 2, none⟩ (.int .u64 x.bits)).setCell ⟨nq, 3, none⟩ (.string x.s)).setCell ⟨nq, 4, none⟩ (.slice na lL.length nc) = Z2 from hY)
        clear kn km hn hq oY hkY hY hly HQ HAN
        obtain ⟨D, hD⟩ : ∃ D, Z2.drew = D := ⟨_, rfl⟩
        have kD : Kept Z2 D := by rw [← hD]; exact (Kept.refl _).drew
        replace HB := Lib.hid (HB.out.kept kD)
        replace HLY := Lib.hid (lys_kept HLY.out kD)
        replace HPB := Lib.hid (HPB.out.kept kD)
        replace HPL := Lib.hid (lys_kept HPL.out kD)
        replace HNB := Lib.hid (HNB.out.kept kD)
        replace HNL := Lib.hid (lys_kept HNL.out kD)
        have HKD := Lib.hid (HKZ2.out.trans kD)
        clear kD HKZ1
        go_wp2_with (first | rw [HWN.out] | rw [HWQ.out] | rw [HWY.out])
        clear g0 g1_ g2 g3 g4 f0 f1 f2 f3 f4 HWN HWQ HWY
        obtain ⟨⟨r0, r1, r2, r3, r4⟩, _⟩ := blk5u (HB.out)
        obtain ⟨⟨t0, t1, t2, t3, t4⟩, _⟩ := blk5u (HPB.out)
        obtain ⟨⟨j0, j1, j2, j3, j4⟩, _⟩ := blk5u (HNB.out)
        have hS := fun W (k : Kept D W) => And.intro (k.cell r0) (And.intro (k.cell r1) (And.intro (k.cell r2) (And.intro (k.cell r3) (And.intro (k.cell r4) (And.intro (k.cell t0) (And.intro (k.cell t1) (And.intro (k.cell t2) (And.intro (k.cell t3) (And.intro (k.cell t4) (And.intro (k.cell j0) (And.intro (k.cell j1) (And.intro (k.cell j2) (And.intro (k.cell j3) (k.cell j4))))))))))))))
        refine wp_region_held_drew (S := (fun W => W.cell? ⟨g1, 0, none⟩ = some (.int .i64 x.tag) ∧ W.cell? ⟨g1, 1, none⟩ = some (.int .i64 x.n) ∧ W.cell? ⟨g1, 2, none⟩ = some (.int .u64 x.bits) ∧ W.cell? ⟨g1, 3, none⟩ = some (.string x.s) ∧ W.cell? ⟨g1, 4, none⟩ = some (.slice ca l0.length cc) ∧ W.cell? ⟨pq, 0, none⟩ = some (.int .i64 vx.tag) ∧ W.cell? ⟨pq, 1, none⟩ = some (.int .i64 vx.n) ∧ W.cell? ⟨pq, 2, none⟩ = some (.int .u64 vx.bits) ∧ W.cell? ⟨pq, 3, none⟩ = some (.string vx.s) ∧ W.cell? ⟨pq, 4, none⟩ = some (.slice pa lx.length pc) ∧ W.cell? ⟨nq, 0, none⟩ = some (.int .i64 x.tag) ∧ W.cell? ⟨nq, 1, none⟩ = some (.int .i64 x.n) ∧ W.cell? ⟨nq, 2, none⟩ = some (.int .u64 x.bits) ∧ W.cell? ⟨nq, 3, none⟩ = some (.string x.s) ∧ W.cell? ⟨nq, 4, none⟩ = some (.slice na lL.length nc))) (by kernel_rfl) (by rw [hD]; exact hS D (Kept.refl _)) (fun hHeld0 => ?_)
        rw [hD] at hHeld0 ⊢
        clear hD
        have kq : Kept D D := Kept.refl _
        refine wpAnyH_take (i := 0) (v := ?_) rfl (by kernel_rfl) (by kernel_rfl) (by kernel_rfl) (fun _ _ _ h => h) (Or.inl ⟨by kernel_rfl, ?_⟩) (by assumption) ?_
        rotate_left
        · intro w hSw; (try dsimp only at hSw); go_simp; (try with_reducible rfl)
        (try simp only [Act.put, List.getElem_toArray, List.getElem_cons_zero, List.getElem_cons_succ, List.setIfInBounds_toArray, List.set_cons_zero, List.set_cons_succ])
        refine wpAnyH_take (i := 1) (v := ?_) rfl (by kernel_rfl) (by kernel_rfl) (by kernel_rfl) (fun _ _ _ h => h) (Or.inl ⟨by kernel_rfl, ?_⟩) (by assumption) ?_
        rotate_left
        · intro w hSw; (try dsimp only at hSw); go_simp; (try with_reducible rfl)
        (try simp only [Act.put, List.getElem_toArray, List.getElem_cons_zero, List.getElem_cons_succ, List.setIfInBounds_toArray, List.set_cons_zero, List.set_cons_succ])
        refine wpAnyH_take (i := 3) (v := ?_) rfl (by kernel_rfl) (by kernel_rfl) (by kernel_rfl) (fun _ _ _ h => h) (Or.inl ⟨by kernel_rfl, ?_⟩) (by assumption) ?_
        rotate_left
        · intro w hSw; (try dsimp only at hSw); go_simp; (try with_reducible rfl)
        (try simp only [Act.put, List.getElem_toArray, List.getElem_cons_zero, List.getElem_cons_succ, List.setIfInBounds_toArray, List.set_cons_zero, List.set_cons_succ])
        refine wpAnyH_take (i := 4) (v := ?_) rfl (by kernel_rfl) (by kernel_rfl) (by kernel_rfl) (fun _ _ _ h => h) (Or.inl ⟨by kernel_rfl, ?_⟩) (by assumption) ?_
        rotate_left
        · intro w hSw; (try dsimp only at hSw); go_simp; (try with_reducible rfl)
        (try simp only [Act.put, List.getElem_toArray, List.getElem_cons_zero, List.getElem_cons_succ, List.setIfInBounds_toArray, List.set_cons_zero, List.set_cons_succ])
        refine wpAnyH_take (i := 6) (v := ?_) rfl (by kernel_rfl) (by kernel_rfl) (by kernel_rfl) (fun _ _ _ h => h) (Or.inl ⟨by kernel_rfl, ?_⟩) (by assumption) ?_
        rotate_left
        · intro w hSw; (try dsimp only at hSw); go_simp; (try with_reducible rfl)
        (try simp only [Act.put, List.getElem_toArray, List.getElem_cons_zero, List.getElem_cons_succ, List.setIfInBounds_toArray, List.set_cons_zero, List.set_cons_succ])
        refine wpAnyH_take (i := 7) (v := ?_) rfl (by kernel_rfl) (by kernel_rfl) (by kernel_rfl) (fun _ _ _ h => h) (Or.inl ⟨by kernel_rfl, ?_⟩) (by assumption) ?_
        rotate_left
        · intro w hSw; (try dsimp only at hSw); go_simp; (try with_reducible rfl)
        (try simp only [Act.put, List.getElem_toArray, List.getElem_cons_zero, List.getElem_cons_succ, List.setIfInBounds_toArray, List.set_cons_zero, List.set_cons_succ])
        refine wpAnyH_ready (rs := [2]) (by kernel_rfl) (by simp) ?_
        refine AllReadyH.cons rfl (fun K hK => ?_) AllReadyH.nil
        go_simp
        refine (shows_c x ca cc l0 a cp t D (tab_kept HT.out (HKD.out.trans kq)) HSM.out (lys_kept HLY.out kq) HX.out (by have := HL0.out; have := HSN.out; omega)).mono ?_
        rintro e y1 ⟨ba, bc, rfl, hmb, kn⟩
        have HM0 := Lib.hid hmb
        clear hmb
        replace kq := kq.trans kn
        clear kn
        refine hK.out _ _ (hS _ kq) (fun hHeld1 => ?_)
        clear hK K
        (try simp only [Act.put, List.getElem_toArray, List.getElem_cons_zero, List.getElem_cons_succ, List.setIfInBounds_toArray, List.set_cons_zero, List.set_cons_succ])
        refine wpAnyH_ready (rs := [5]) (by kernel_rfl) (by simp) ?_
        refine AllReadyH.cons rfl (fun K hK => ?_) AllReadyH.nil
        go_simp
        refine (shows_c x na nc lL a cp t y1 (tab_kept HT.out (HKD.out.trans kq)) HSM.out (lys_kept HNL.out kq) HX.out (by have := HL0.out; have := HSN.out; omega)).mono ?_
        rintro e y2 ⟨da, dc, rfl, hmb, kn⟩
        have HM1 := Lib.hid hmb
        clear hmb
        replace HM0 := Lib.hid (HM0.out.kept kn)
        replace kq := kq.trans kn
        clear kn
        refine hK.out _ _ (hS _ kq) (fun hHeld2 => ?_)
        clear hK K
        (try simp only [Act.put, List.getElem_toArray, List.getElem_cons_zero, List.getElem_cons_succ, List.setIfInBounds_toArray, List.set_cons_zero, List.set_cons_succ])
        refine wpAnyH_ready (rs := [8]) (by kernel_rfl) (by simp) ?_
        refine AllReadyH.cons rfl (fun K hK => ?_) AllReadyH.nil
        go_simp
        refine (shows_c vx pa pc lx a cp t y2 (tab_kept HT.out (HKD.out.trans kq)) HSM.out (lys_kept HPL.out kq) (small_zW HVX.out) (by have := HL0.out; have := HSN.out; omega)).mono ?_
        rintro e y3 ⟨fa, fc, rfl, hmb, kn⟩
        have HM2 := Lib.hid hmb
        clear hmb
        replace HM0 := Lib.hid (HM0.out.kept kn)
        replace HM1 := Lib.hid (HM1.out.kept kn)
        replace kq := kq.trans kn
        clear kn
        refine hK.out _ _ (hS _ kq) (fun hHeld3 => ?_)
        clear hK K
        (try simp only [Act.put, List.getElem_toArray, List.getElem_cons_zero, List.getElem_cons_succ, List.setIfInBounds_toArray, List.set_cons_zero, List.set_cons_succ])
        refine wpAnyH_take (i := 9) (v := ?_) rfl (by kernel_rfl) (by kernel_rfl) (by kernel_rfl) (fun _ _ _ h => h) (Or.inl ⟨by kernel_rfl, ?_⟩) (by assumption) ?_
        rotate_left
        · intro w hSw; (try dsimp only at hSw); go_simp; (try with_reducible rfl)
        (try simp only [Act.put, List.getElem_toArray, List.getElem_cons_zero, List.getElem_cons_succ, List.setIfInBounds_toArray, List.set_cons_zero, List.set_cons_succ])
        refine wpAnyH_take (i := 10) (v := ?_) rfl (by kernel_rfl) (by kernel_rfl) (by kernel_rfl) (fun _ _ _ h => h) (Or.inl ⟨by kernel_rfl, ?_⟩) (by assumption) ?_
        rotate_left
        · intro w hSw; (try dsimp only at hSw); go_simp; (try with_reducible rfl)
        (try simp only [Act.put, List.getElem_toArray, List.getElem_cons_zero, List.getElem_cons_succ, List.setIfInBounds_toArray, List.set_cons_zero, List.set_cons_succ])
        refine wpAnyH_take (i := 11) (v := ?_) rfl (by kernel_rfl) (by kernel_rfl) (by kernel_rfl) (fun _ _ _ h => h) (Or.inl ⟨by kernel_rfl, ?_⟩) (by assumption) ?_
        rotate_left
        · intro w hSw; (try dsimp only at hSw); go_simp; (try with_reducible rfl)
        (try simp only [Act.put, List.getElem_toArray, List.getElem_cons_zero, List.getElem_cons_succ, List.setIfInBounds_toArray, List.set_cons_zero, List.set_cons_succ])
        refine wpAnyH_done (by kernel_rfl) ?_ _
        have HKQ := Lib.hid kq
        clear kq hS
        clear r0 r1 r2 r3 r4 t0 t1 t2 t3 t4 j0 j1 j2 j3 j4
        go_wp2_with fail
        refine ((within_c (Co.showsP t x lL) (Co.showsP t x l0) da ba dc bc y3 HM1.out HM0.out (shows_len HSM.out _ _) (shows_len HSM.out _ _)).mono (fun e w' h => show e = .returned (.bool true) ∧ Kept y3 w' by rwa [decide_eq_true (show ∀ q ∈ Co.showsP t x lL, q ∈ Co.showsP t x l0 from HSU.out)] at h)).mono ?_
        rintro e y4 ⟨rfl, ky4⟩
        have HKE := Lib.hid (show Kept y3 y4 from ky4)
        clear ky4
        cases hcls : Wrd.cls u with
        | true =>
          obtain ⟨hbase, hk3, hq⟩ := cls_facts hcls
          have HDEC := Lib.hid (HK3.out hk3)
          have hqb : (u.toList == [63]) = false := lit_no hq
          clear hk3
          have HCC := Lib.hid ((class_c u y4 (by have := HUU.out; unfold maxLen at this; omega)).mono (fun e w' h => show e = .returned (.bool true) ∧ Kept y4 w' by rwa [hcls] at h))
          clear hcls hq
          go_wp2_with fail
          refine (HCC.out).mono ?_
          rintro e y6 ⟨rfl, ky6⟩
          replace HKE := Lib.hid (HKE.out.trans ky6)
          clear ky6 HCC
          go_wp2_with fail
          refine (membersM_c a cp t u y6 (tab_kept HT.out (HKD.out.trans (HKQ.out.trans HKE.out))) HSM.out).mono ?_
          rintro e y7 ⟨ma, mc, rfl, hmm, k7⟩
          replace HKE := Lib.hid (HKE.out.trans k7)
          have HMM := Lib.hid hmm
          clear k7 hmm
          go_wp2_with fail
          refine ((within_c (Tab.members t u) (Co.showsP t x lL) ma da mc dc y7 HMM.out (HM1.out.kept HKE.out) (Nat.le_trans (members_le HSM.out _) (by decide)) (shows_len HSM.out _ _)).mono (fun e w' h => show e = .returned (.bool false) ∧ Kept y7 w' by have h2 := h; rwa [← HDEC.out] at h2)).mono ?_
          rintro e y8 ⟨rfl, ky8⟩
          replace HKE := Lib.hid (HKE.out.trans ky8)
          clear ky8
          have HBC := Lib.hid ((base_c u y8 (HTb.out.kept (HKD.out.trans (HKQ.out.trans HKE.out)))).mono (fun e w' h => show e = .returned (.bool false) ∧ Kept y8 w' by rwa [hbase] at h))
          clear hbase
          go_wp2_with fail
          refine (HBC.out).mono ?_
          rintro e y9 ⟨rfl, ky9⟩
          replace HKE := Lib.hid (HKE.out.trans ky9)
          clear ky9 HBC
          obtain ⟨⟨t0, t1, t2, t3, t4⟩, _⟩ := blk5u (HPB.out.kept (HKQ.out.trans HKE.out))
          go_wp2_with fail
          refine ((sameV_c vx zW lx [] pa none pc 0 y9 (lys_kept HPL.out (HKQ.out.trans HKE.out)) Row.nil).mono (fun e w' h => show e = .returned (.bool true) ∧ Kept y9 w' by rwa [decide_eq_true (show vx = zW ∧ lx = [] from ⟨HVX.out, HVL.out⟩)] at h)).mono ?_
          rintro e z9 ⟨rfl, kz9⟩
          go_wp2_with fail
          go_ret
          exact ⟨rfl, (HKD.out.trans (HKQ.out.trans HKE.out)).trans kz9⟩
        | false =>
          have HCC := Lib.hid ((class_c u y4 (by have := HUU.out; unfold maxLen at this; omega)).mono (fun e w' h => show e = .returned (.bool false) ∧ Kept y4 w' by rwa [hcls] at h))
          go_wp2_with fail
          refine (HCC.out).mono ?_
          rintro e y6 ⟨rfl, ky6⟩
          replace HKE := Lib.hid (HKE.out.trans ky6)
          clear ky6 HCC
          cases hbase : Wrd.base u with
          | true =>
            have hqb : (u.toList == [63]) = false := lit_no (base_noq hbase)
            have HBC := Lib.hid ((base_c u y6 (HTb.out.kept (HKD.out.trans (HKQ.out.trans HKE.out)))).mono (fun e w' h => show e = .returned (.bool true) ∧ Kept y6 w' by rwa [hbase] at h))
            clear hbase hcls
            go_wp2_with fail
            refine (HBC.out).mono ?_
            rintro e y9 ⟨rfl, ky9⟩
            replace HKE := Lib.hid (HKE.out.trans ky9)
            clear ky9 HBC
            obtain ⟨⟨t0, t1, t2, t3, t4⟩, _⟩ := blk5u (HPB.out.kept (HKQ.out.trans HKE.out))
            go_wp2_with fail
            refine ((sameV_c vx zW lx [] pa none pc 0 y9 (lys_kept HPL.out (HKQ.out.trans HKE.out)) Row.nil).mono (fun e w' h => show e = .returned (.bool true) ∧ Kept y9 w' by rwa [decide_eq_true (show vx = zW ∧ lx = [] from ⟨HVX.out, HVL.out⟩)] at h)).mono ?_
            rintro e z9 ⟨rfl, kz9⟩
            go_wp2_with fail
            go_ret
            exact ⟨rfl, (HKD.out.trans (HKQ.out.trans HKE.out)).trans kz9⟩
          | false =>
            by_cases hq : u = ⟨#[63]⟩
            · exact absurd (HK2.out (kind_q hbase hq)) (by simp)
            · skip
              have hqb : (u.toList == [63]) = false := lit_no hq
              have HBC := Lib.hid ((base_c u y6 (HTb.out.kept (HKD.out.trans (HKQ.out.trans HKE.out)))).mono (fun e w' h => show e = .returned (.bool false) ∧ Kept y6 w' by rwa [hbase] at h))
              clear hbase hcls hq
              go_wp2_with fail
              refine (HBC.out).mono ?_
              rintro e y9 ⟨rfl, ky9⟩
              replace HKE := Lib.hid (HKE.out.trans ky9)
              clear ky9 HBC
              obtain ⟨⟨t0, t1, t2, t3, t4⟩, _⟩ := blk5u (HPB.out.kept (HKQ.out.trans HKE.out))
              go_wp2_with fail
              refine ((sameV_c vx zW lx [] pa none pc 0 y9 (lys_kept HPL.out (HKQ.out.trans HKE.out)) Row.nil).mono (fun e w' h => show e = .returned (.bool true) ∧ Kept y9 w' by rwa [decide_eq_true (show vx = zW ∧ lx = [] from ⟨HVX.out, HVL.out⟩)] at h)).mono ?_
              rintro e z9 ⟨rfl, kz9⟩
              go_wp2_with fail
              go_ret
              exact ⟨rfl, (HKD.out.trans (HKQ.out.trans HKE.out)).trans kz9⟩
    · have c7 : (x.tag != 7) = true := by simpa using h7
      have HBS := Lib.hid (Co.cast_base (t := t) h7 true l0 s u lab)
      clear h7
      cases hf : Co.fitsB t x l0 u with
      | true =>
        rw [hf, if_pos rfl] at HBS
        clear hf
        obtain ⟨⟨r0, r1, r2, r3, r4⟩, _⟩ := blk5u (HB.out)
        go_wp2_with (first | rw [HWU.out])
        clear q0 q1 q2 q3 q4 s0 s1 s2 s3 s4 HWU
        have HCA := Lib.hid (show Calls Tryd.prog 25 #[.slice a t.length cp, vV x (.slice ca l0.length cc), .string s, .string u, .int .i64 lab, .bool true] U (AnsPost (x, l0) 0 U) from (ocast_c true x ca cc l0 a cp t s u lab U (tab_kept HT.out HKU.out) HSM.out (HTb.out.kept HKU.out) HLY.out HSS.out HUU.out HX.out (by have := HL0.out; omega)).mono (fun e w' h => by have := ans_of h; rwa [HBS.out] at this))
        clear r0 r1 r2 r3 r4
        refine (HCA.out).mono ?_
        rintro e pu ⟨pa, pc, rfl, hly, kn⟩
        obtain ⟨pv, hn⟩ : ∃ W, pu.alloc (.cells uZ uT) = W := ⟨_, rfl⟩
        obtain ⟨pq, hq⟩ : ∃ q, pu.heap.size = q := ⟨_, rfl⟩
        have km : Kept pu pv := by rw [← hn]; exact (Kept.refl _).alloc _
        have HQ := Lib.hid (show Blk pv pq uT uZ by rw [← hn, ← hq]; exact Blk.new _ _ _)
        have HAN := Lib.hid (lys_kept hly km)
        obtain ⟨⟨g0, g1_, g2, g3, g4⟩, f0, f1, f2, f3, f4⟩ := blk5u HQ.out
        obtain ⟨Z1, hY⟩ : ∃ Y, put5u pv pq (.int .i64 x.tag) (.int .i64 x.n) (.int .u64 x.bits) (.string x.s) (.slice pa l0.length pc) = Y := ⟨_, rfl⟩
        have oY : Only (· = pq) pv Z1 := by rw [← hY]; exact put5u_only _ _ _ _ _ _ _
        have HPB := Lib.hid (show Blk Z1 pq uT #[.int .i64 x.tag, .int .i64 x.n, .int .u64 x.bits, .string x.s, .slice pa l0.length pc] by rw [← hY]; exact put5u_blk HQ.out _ _ _ _ _)
        have hkY : Kept U Z1 := (kn.trans km).only oY rfl (fun k e => by have := kn.size; omega)
        have HPL := Lib.hid (show LysAt Z1 (.slice pa l0.length pc) l0 from lys_put HAN.out HQ.out oY)
        have HKZ1 := Lib.hid ((show Kept w U from HKU.out).trans hkY)
        replace HB := Lib.hid (HB.out.kept hkY)
        replace HLY := Lib.hid (lys_kept HLY.out hkY)
        have HWN := Lib.hid hn
        have HWQ := Lib.hid hq
        have HWY := Lib.hid (show ((((pv.setCell ⟨pq, 0, none⟩ (.int .i64 x.tag)).setCell ⟨pq, 1, none⟩ (.int .i64 x.n)).setCell ⟨pq, 2, none⟩ (.int .u64 x.bits)).setCell ⟨pq, 3, none⟩ (.string x.s)).setCell ⟨pq, 4, none⟩ (.slice pa l0.length pc) = Z1 from hY)
        clear kn km hn hq oY hkY hY hly HQ HAN
        obtain ⟨⟨r0, r1, r2, r3, r4⟩, _⟩ := blk5u (HB.out)
        obtain ⟨⟨t0, t1, t2, t3, t4⟩, _⟩ := blk5u (HPB.out)
        go_wp2_with (first | rw [HWN.out] | rw [HWQ.out] | rw [HWY.out])
        clear g0 g1_ g2 g3 g4 f0 f1 f2 f3 f4 HWN HWQ HWY
        refine (sameV_y x l0 pa ca pc cc Z1 HPL.out HLY.out).mono ?_
        rintro e z9 ⟨rfl, kz9⟩
        go_wp2_with fail
        go_ret
        exact ⟨rfl, HKZ1.out.trans kz9⟩
      | false =>
        rw [hf, if_neg (by simp)] at HBS
        clear hf
        obtain ⟨vx, hvx⟩ : ∃ v, zW = v := ⟨_, rfl⟩
        obtain ⟨lx, hlx⟩ : ∃ v : List Ly, [] = v := ⟨_, rfl⟩
        have HSV := Lib.hid (show Co.valR x (Co.sent true l0 (Co.castR t x l0 s u lab)) = (vx, lx) by rw [HBS.out, ← hvx, ← hlx]; rfl)
        have HSB := Lib.hid (show Co.labR (Co.sent true l0 (Co.castR t x l0 s u lab)) = lab by rw [HBS.out]; rfl)
        have HVX := Lib.hid hvx
        have HVL := Lib.hid hlx
        clear hvx hlx HBS
        obtain ⟨⟨r0, r1, r2, r3, r4⟩, _⟩ := blk5u (HB.out)
        go_wp2_with (first | rw [HWU.out])
        clear q0 q1 q2 q3 q4 s0 s1 s2 s3 s4 HWU
        have HCA := Lib.hid (show Calls Tryd.prog 25 #[.slice a t.length cp, vV x (.slice ca l0.length cc), .string s, .string u, .int .i64 lab, .bool true] U (AnsPost (vx, lx) lab U) from (ocast_c true x ca cc l0 a cp t s u lab U (tab_kept HT.out HKU.out) HSM.out (HTb.out.kept HKU.out) HLY.out HSS.out HUU.out HX.out (by have := HL0.out; omega)).mono (fun e w' h => by have := ans_of h; rwa [HSV.out, HSB.out] at this))
        clear r0 r1 r2 r3 r4
        refine (HCA.out).mono ?_
        rintro e pu ⟨pa, pc, rfl, hly, kn⟩
        obtain ⟨pv, hn⟩ : ∃ W, pu.alloc (.cells uZ uT) = W := ⟨_, rfl⟩
        obtain ⟨pq, hq⟩ : ∃ q, pu.heap.size = q := ⟨_, rfl⟩
        have km : Kept pu pv := by rw [← hn]; exact (Kept.refl _).alloc _
        have HQ := Lib.hid (show Blk pv pq uT uZ by rw [← hn, ← hq]; exact Blk.new _ _ _)
        have HAN := Lib.hid (lys_kept hly km)
        obtain ⟨⟨g0, g1_, g2, g3, g4⟩, f0, f1, f2, f3, f4⟩ := blk5u HQ.out
        obtain ⟨Z1, hY⟩ : ∃ Y, put5u pv pq (.int .i64 vx.tag) (.int .i64 vx.n) (.int .u64 vx.bits) (.string vx.s) (.slice pa lx.length pc) = Y := ⟨_, rfl⟩
        have oY : Only (· = pq) pv Z1 := by rw [← hY]; exact put5u_only _ _ _ _ _ _ _
        have HPB := Lib.hid (show Blk Z1 pq uT #[.int .i64 vx.tag, .int .i64 vx.n, .int .u64 vx.bits, .string vx.s, .slice pa lx.length pc] by rw [← hY]; exact put5u_blk HQ.out _ _ _ _ _)
        have hkY : Kept U Z1 := (kn.trans km).only oY rfl (fun k e => by have := kn.size; omega)
        have HPL := Lib.hid (show LysAt Z1 (.slice pa lx.length pc) lx from lys_put HAN.out HQ.out oY)
        have HKZ1 := Lib.hid ((show Kept w U from HKU.out).trans hkY)
        replace HB := Lib.hid (HB.out.kept hkY)
        replace HLY := Lib.hid (lys_kept HLY.out hkY)
        have HWN := Lib.hid hn
        have HWQ := Lib.hid hq
        have HWY := Lib.hid (show ((((pv.setCell ⟨pq, 0, none⟩ (.int .i64 vx.tag)).setCell ⟨pq, 1, none⟩ (.int .i64 vx.n)).setCell ⟨pq, 2, none⟩ (.int .u64 vx.bits)).setCell ⟨pq, 3, none⟩ (.string vx.s)).setCell ⟨pq, 4, none⟩ (.slice pa lx.length pc) = Z1 from hY)
        clear kn km hn hq oY hkY hY hly HQ HAN
        obtain ⟨⟨r0, r1, r2, r3, r4⟩, _⟩ := blk5u (HB.out)
        obtain ⟨⟨t0, t1, t2, t3, t4⟩, _⟩ := blk5u (HPB.out)
        go_wp2_with (first | rw [HWN.out] | rw [HWQ.out] | rw [HWY.out])
        clear g0 g1_ g2 g3 g4 f0 f1 f2 f3 f4 HWN HWQ HWY
        refine ((sameV_c vx zW lx [] pa none pc 0 Z1 HPL.out Row.nil).mono (fun e w' h => show e = .returned (.bool true) ∧ Kept Z1 w' by rwa [decide_eq_true (show vx = zW ∧ lx = [] from ⟨HVX.out.symm, HVL.out.symm⟩)] at h)).mono ?_
        rintro e z9 ⟨rfl, kz9⟩
        go_wp2_with fail
        go_ret
        exact ⟨rfl, HKZ1.out.trans kz9⟩
  | false =>
    have HB := HB5
    have HLY := (Lib.hid (lys_kept HV.out HKW.out))
    have HL0 := (Lib.hid HLX.out.2)
    have HKU := HKW
    by_cases h7 : x.tag = 7
    · have c7 : (x.tag != 7) = false := by rw [h7]; rfl
      obtain ⟨lL, vx, lx, bl, F, HS⟩ := shr_facts (t := t) h7 false l s u lab HL0.out
      have HSV := Lib.hid HS.val
      have HSB := Lib.hid HS.labl
      have HSL := Lib.hid HS.left
      have HSN := Lib.hid HS.len
      have HSU := Lib.hid HS.sub
      have HYES := Lib.hid HS.yes
      have HNO := Lib.hid HS.no
      have HK3 := Lib.hid HS.k3
      have HK1 := Lib.hid HS.k1
      have HK2 := Lib.hid HS.k2
      have HK0 := Lib.hid HS.k0
      clear HS h7
      cases F with
      | true =>
        obtain ⟨hb, hvx, hsub, ly, hent, hsame, hlen⟩ := HYES.out rfl
        subst hb
        rw [hvx] at HSV
        have HSUB := Lib.hid hsub
        have HENT := Lib.hid hent
        have HSAME := Lib.hid hsame
        have HLN := Lib.hid hlen
        clear hvx hsub hent hsame hlen HYES HNO
        obtain ⟨⟨r0, r1, r2, r3, r4⟩, _⟩ := blk5u (HB.out)
        go_wp2_with fail
        have HCA := Lib.hid (show Calls Tryd.prog 25 #[.slice a t.length cp, vV x (.slice va l.length vc), .string s, .string u, .int .i64 lab, .bool false] w5 (AnsPost (x, lx) 0 w5) from (ocast_c false x va vc l a cp t s u lab w5 (tab_kept HT.out HKU.out) HSM.out (HTb.out.kept HKU.out) HLY.out HSS.out HUU.out HX.out (by have := HL0.out; omega)).mono (fun e w' h => by have := ans_of h; rwa [HSV.out, HSB.out] at this))
        clear r0 r1 r2 r3 r4
        refine (HCA.out).mono ?_
        rintro e pu ⟨pa, pc, rfl, hly, kn⟩
        obtain ⟨pv, hn⟩ : ∃ W, pu.alloc (.cells uZ uT) = W := ⟨_, rfl⟩
        obtain ⟨pq, hq⟩ : ∃ q, pu.heap.size = q := ⟨_, rfl⟩
        have km : Kept pu pv := by rw [← hn]; exact (Kept.refl _).alloc _
        have HQ := Lib.hid (show Blk pv pq uT uZ by rw [← hn, ← hq]; exact Blk.new _ _ _)
        have HAN := Lib.hid (lys_kept hly km)
        obtain ⟨⟨g0, g1_, g2, g3, g4⟩, f0, f1, f2, f3, f4⟩ := blk5u HQ.out
        obtain ⟨Z1, hY⟩ : ∃ Y, put5u pv pq (.int .i64 x.tag) (.int .i64 x.n) (.int .u64 x.bits) (.string x.s) (.slice pa lx.length pc) = Y := ⟨_, rfl⟩
        have oY : Only (· = pq) pv Z1 := by rw [← hY]; exact put5u_only _ _ _ _ _ _ _
        have HPB := Lib.hid (show Blk Z1 pq uT #[.int .i64 x.tag, .int .i64 x.n, .int .u64 x.bits, .string x.s, .slice pa lx.length pc] by rw [← hY]; exact put5u_blk HQ.out _ _ _ _ _)
        have hkY : Kept w5 Z1 := (kn.trans km).only oY rfl (fun k e => by have := kn.size; omega)
        have HPL := Lib.hid (show LysAt Z1 (.slice pa lx.length pc) lx from lys_put HAN.out HQ.out oY)
        have HKZ1 := Lib.hid ((show Kept w w5 from HKU.out).trans hkY)
        replace HB := Lib.hid (HB.out.kept hkY)
        replace HLY := Lib.hid (lys_kept HLY.out hkY)
        have HWN := Lib.hid hn
        have HWQ := Lib.hid hq
        have HWY := Lib.hid (show ((((pv.setCell ⟨pq, 0, none⟩ (.int .i64 x.tag)).setCell ⟨pq, 1, none⟩ (.int .i64 x.n)).setCell ⟨pq, 2, none⟩ (.int .u64 x.bits)).setCell ⟨pq, 3, none⟩ (.string x.s)).setCell ⟨pq, 4, none⟩ (.slice pa lx.length pc) = Z1 from hY)
        clear kn km hn hq oY hkY hY hly HQ HAN
        obtain ⟨⟨r0, r1, r2, r3, r4⟩, _⟩ := blk5u (HB.out)
        go_wp2_with (first | rw [HWN.out] | rw [HWQ.out] | rw [HWY.out])
        clear g0 g1_ g2 g3 g4 f0 f1 f2 f3 f4 HWN HWQ HWY
        clear r0 r1 r2 r3 r4
        refine ((oleave_c false x va vc l a cp t s (wrap64 (-lab)) Z1 (tab_kept HT.out HKZ1.out) HSM.out (HTb.out.kept HKZ1.out) HLY.out HSS.out HX.out (by have := HL0.out; omega)).mono (fun e w' h => show LeavePost x lL Z1 e w' by have := h; rwa [HSL.out] at this)).mono ?_
        rintro e nu ⟨kn, na, nc, rfl, hrow, hfi⟩
        have hly := owns_lys hrow hfi
        clear hrow hfi
        obtain ⟨nv, hn⟩ : ∃ W, nu.alloc (.cells uZ uT) = W := ⟨_, rfl⟩
        obtain ⟨nq, hq⟩ : ∃ q, nu.heap.size = q := ⟨_, rfl⟩
        have km : Kept nu nv := by rw [← hn]; exact (Kept.refl _).alloc _
        have HQ := Lib.hid (show Blk nv nq uT uZ by rw [← hn, ← hq]; exact Blk.new _ _ _)
        have HAN := Lib.hid (lys_kept hly km)
        obtain ⟨⟨g0, g1_, g2, g3, g4⟩, f0, f1, f2, f3, f4⟩ := blk5u HQ.out
        obtain ⟨Z2, hY⟩ : ∃ Y, put5u nv nq (.int .i64 x.tag) (.int .i64 x.n) (.int .u64 x.bits) (.string x.s) (.slice na lL.length nc) = Y := ⟨_, rfl⟩
        have oY : Only (· = nq) nv Z2 := by rw [← hY]; exact put5u_only _ _ _ _ _ _ _
        have HNB := Lib.hid (show Blk Z2 nq uT #[.int .i64 x.tag, .int .i64 x.n, .int .u64 x.bits, .string x.s, .slice na lL.length nc] by rw [← hY]; exact put5u_blk HQ.out _ _ _ _ _)
        have hkY : Kept Z1 Z2 := (kn.trans km).only oY rfl (fun k e => by have := kn.size; omega)
        have HNL := Lib.hid (show LysAt Z2 (.slice na lL.length nc) lL from lys_put HAN.out HQ.out oY)
        have HKZ2 := Lib.hid ((show Kept w Z1 from HKZ1.out).trans hkY)
        replace HB := Lib.hid (HB.out.kept hkY)
        replace HLY := Lib.hid (lys_kept HLY.out hkY)
        replace HPB := Lib.hid (HPB.out.kept hkY)
        replace HPL := Lib.hid (lys_kept HPL.out hkY)
        have HWN := Lib.hid hn
        have HWQ := Lib.hid hq
        have HWY := Lib.hid (show ((((nv.setCell ⟨nq, 0, none⟩ (.int .i64 x.tag)).setCell ⟨nq, 1, none⟩ (.int .i64 x.n)).setCell ⟨nq, 2, none⟩ (.int .u64 x.bits)).setCell ⟨nq, 3, none⟩ (.string x.s)).setCell ⟨nq, 4, none⟩ (.slice na lL.length nc) = Z2 from hY)
        clear kn km hn hq oY hkY hY hly HQ HAN
        obtain ⟨D, hD⟩ : ∃ D, Z2.drew = D := ⟨_, rfl⟩
        have kD : Kept Z2 D := by rw [← hD]; exact (Kept.refl _).drew
        replace HB := Lib.hid (HB.out.kept kD)
        replace HLY := Lib.hid (lys_kept HLY.out kD)
        replace HPB := Lib.hid (HPB.out.kept kD)
        replace HPL := Lib.hid (lys_kept HPL.out kD)
        replace HNB := Lib.hid (HNB.out.kept kD)
        replace HNL := Lib.hid (lys_kept HNL.out kD)
        have HKD := Lib.hid (HKZ2.out.trans kD)
        clear kD HKZ1
        go_wp2_with (first | rw [HWN.out] | rw [HWQ.out] | rw [HWY.out])
        clear g0 g1_ g2 g3 g4 f0 f1 f2 f3 f4 HWN HWQ HWY
        obtain ⟨⟨r0, r1, r2, r3, r4⟩, _⟩ := blk5u (HB.out)
        obtain ⟨⟨t0, t1, t2, t3, t4⟩, _⟩ := blk5u (HPB.out)
        obtain ⟨⟨j0, j1, j2, j3, j4⟩, _⟩ := blk5u (HNB.out)
        have hS := fun W (k : Kept D W) => And.intro (k.cell r0) (And.intro (k.cell r1) (And.intro (k.cell r2) (And.intro (k.cell r3) (And.intro (k.cell r4) (And.intro (k.cell t0) (And.intro (k.cell t1) (And.intro (k.cell t2) (And.intro (k.cell t3) (And.intro (k.cell t4) (And.intro (k.cell j0) (And.intro (k.cell j1) (And.intro (k.cell j2) (And.intro (k.cell j3) (k.cell j4))))))))))))))
        refine wp_region_held_drew (S := (fun W => W.cell? ⟨g1, 0, none⟩ = some (.int .i64 x.tag) ∧ W.cell? ⟨g1, 1, none⟩ = some (.int .i64 x.n) ∧ W.cell? ⟨g1, 2, none⟩ = some (.int .u64 x.bits) ∧ W.cell? ⟨g1, 3, none⟩ = some (.string x.s) ∧ W.cell? ⟨g1, 4, none⟩ = some (.slice va l.length vc) ∧ W.cell? ⟨pq, 0, none⟩ = some (.int .i64 x.tag) ∧ W.cell? ⟨pq, 1, none⟩ = some (.int .i64 x.n) ∧ W.cell? ⟨pq, 2, none⟩ = some (.int .u64 x.bits) ∧ W.cell? ⟨pq, 3, none⟩ = some (.string x.s) ∧ W.cell? ⟨pq, 4, none⟩ = some (.slice pa lx.length pc) ∧ W.cell? ⟨nq, 0, none⟩ = some (.int .i64 x.tag) ∧ W.cell? ⟨nq, 1, none⟩ = some (.int .i64 x.n) ∧ W.cell? ⟨nq, 2, none⟩ = some (.int .u64 x.bits) ∧ W.cell? ⟨nq, 3, none⟩ = some (.string x.s) ∧ W.cell? ⟨nq, 4, none⟩ = some (.slice na lL.length nc))) (by kernel_rfl) (by rw [hD]; exact hS D (Kept.refl _)) (fun hHeld0 => ?_)
        rw [hD] at hHeld0 ⊢
        clear hD
        have kq : Kept D D := Kept.refl _
        refine wpAnyH_take (i := 0) (v := ?_) rfl (by kernel_rfl) (by kernel_rfl) (by kernel_rfl) (fun _ _ _ h => h) (Or.inl ⟨by kernel_rfl, ?_⟩) (by assumption) ?_
        rotate_left
        · intro w hSw; (try dsimp only at hSw); go_simp; (try with_reducible rfl)
        (try simp only [Act.put, List.getElem_toArray, List.getElem_cons_zero, List.getElem_cons_succ, List.setIfInBounds_toArray, List.set_cons_zero, List.set_cons_succ])
        refine wpAnyH_take (i := 1) (v := ?_) rfl (by kernel_rfl) (by kernel_rfl) (by kernel_rfl) (fun _ _ _ h => h) (Or.inl ⟨by kernel_rfl, ?_⟩) (by assumption) ?_
        rotate_left
        · intro w hSw; (try dsimp only at hSw); go_simp; (try with_reducible rfl)
        (try simp only [Act.put, List.getElem_toArray, List.getElem_cons_zero, List.getElem_cons_succ, List.setIfInBounds_toArray, List.set_cons_zero, List.set_cons_succ])
        refine wpAnyH_take (i := 3) (v := ?_) rfl (by kernel_rfl) (by kernel_rfl) (by kernel_rfl) (fun _ _ _ h => h) (Or.inl ⟨by kernel_rfl, ?_⟩) (by assumption) ?_
        rotate_left
        · intro w hSw; (try dsimp only at hSw); go_simp; (try with_reducible rfl)
        (try simp only [Act.put, List.getElem_toArray, List.getElem_cons_zero, List.getElem_cons_succ, List.setIfInBounds_toArray, List.set_cons_zero, List.set_cons_succ])
        refine wpAnyH_take (i := 4) (v := ?_) rfl (by kernel_rfl) (by kernel_rfl) (by kernel_rfl) (fun _ _ _ h => h) (Or.inl ⟨by kernel_rfl, ?_⟩) (by assumption) ?_
        rotate_left
        · intro w hSw; (try dsimp only at hSw); go_simp; (try with_reducible rfl)
        (try simp only [Act.put, List.getElem_toArray, List.getElem_cons_zero, List.getElem_cons_succ, List.setIfInBounds_toArray, List.set_cons_zero, List.set_cons_succ])
        refine wpAnyH_take (i := 6) (v := ?_) rfl (by kernel_rfl) (by kernel_rfl) (by kernel_rfl) (fun _ _ _ h => h) (Or.inl ⟨by kernel_rfl, ?_⟩) (by assumption) ?_
        rotate_left
        · intro w hSw; (try dsimp only at hSw); go_simp; (try with_reducible rfl)
        (try simp only [Act.put, List.getElem_toArray, List.getElem_cons_zero, List.getElem_cons_succ, List.setIfInBounds_toArray, List.set_cons_zero, List.set_cons_succ])
        refine wpAnyH_take (i := 7) (v := ?_) rfl (by kernel_rfl) (by kernel_rfl) (by kernel_rfl) (fun _ _ _ h => h) (Or.inl ⟨by kernel_rfl, ?_⟩) (by assumption) ?_
        rotate_left
        · intro w hSw; (try dsimp only at hSw); go_simp; (try with_reducible rfl)
        (try simp only [Act.put, List.getElem_toArray, List.getElem_cons_zero, List.getElem_cons_succ, List.setIfInBounds_toArray, List.set_cons_zero, List.set_cons_succ])
        refine wpAnyH_ready (rs := [2]) (by kernel_rfl) (by simp) ?_
        refine AllReadyH.cons rfl (fun K hK => ?_) AllReadyH.nil
        go_simp
        refine (shows_c x va vc l a cp t D (tab_kept HT.out (HKD.out.trans kq)) HSM.out (lys_kept HLY.out kq) HX.out (by have := HL0.out; have := HSN.out; omega)).mono ?_
        rintro e y1 ⟨ba, bc, rfl, hmb, kn⟩
        have HM0 := Lib.hid hmb
        clear hmb
        replace kq := kq.trans kn
        clear kn
        refine hK.out _ _ (hS _ kq) (fun hHeld1 => ?_)
        clear hK K
        (try simp only [Act.put, List.getElem_toArray, List.getElem_cons_zero, List.getElem_cons_succ, List.setIfInBounds_toArray, List.set_cons_zero, List.set_cons_succ])
        refine wpAnyH_ready (rs := [5]) (by kernel_rfl) (by simp) ?_
        refine AllReadyH.cons rfl (fun K hK => ?_) AllReadyH.nil
        go_simp
        refine (shows_c x na nc lL a cp t y1 (tab_kept HT.out (HKD.out.trans kq)) HSM.out (lys_kept HNL.out kq) HX.out (by have := HL0.out; have := HSN.out; omega)).mono ?_
        rintro e y2 ⟨da, dc, rfl, hmb, kn⟩
        have HM1 := Lib.hid hmb
        clear hmb
        replace HM0 := Lib.hid (HM0.out.kept kn)
        replace kq := kq.trans kn
        clear kn
        refine hK.out _ _ (hS _ kq) (fun hHeld2 => ?_)
        clear hK K
        (try simp only [Act.put, List.getElem_toArray, List.getElem_cons_zero, List.getElem_cons_succ, List.setIfInBounds_toArray, List.set_cons_zero, List.set_cons_succ])
        refine wpAnyH_ready (rs := [8]) (by kernel_rfl) (by simp) ?_
        refine AllReadyH.cons rfl (fun K hK => ?_) AllReadyH.nil
        go_simp
        refine (shows_c x pa pc lx a cp t y2 (tab_kept HT.out (HKD.out.trans kq)) HSM.out (lys_kept HPL.out kq) HX.out (by have := HL0.out; have := HSN.out; omega)).mono ?_
        rintro e y3 ⟨fa, fc, rfl, hmb, kn⟩
        have HM2 := Lib.hid hmb
        clear hmb
        replace HM0 := Lib.hid (HM0.out.kept kn)
        replace HM1 := Lib.hid (HM1.out.kept kn)
        replace kq := kq.trans kn
        clear kn
        refine hK.out _ _ (hS _ kq) (fun hHeld3 => ?_)
        clear hK K
        (try simp only [Act.put, List.getElem_toArray, List.getElem_cons_zero, List.getElem_cons_succ, List.setIfInBounds_toArray, List.set_cons_zero, List.set_cons_succ])
        refine wpAnyH_take (i := 9) (v := ?_) rfl (by kernel_rfl) (by kernel_rfl) (by kernel_rfl) (fun _ _ _ h => h) (Or.inl ⟨by kernel_rfl, ?_⟩) (by assumption) ?_
        rotate_left
        · intro w hSw; (try dsimp only at hSw); go_simp; (try with_reducible rfl)
        (try simp only [Act.put, List.getElem_toArray, List.getElem_cons_zero, List.getElem_cons_succ, List.setIfInBounds_toArray, List.set_cons_zero, List.set_cons_succ])
        refine wpAnyH_take (i := 10) (v := ?_) rfl (by kernel_rfl) (by kernel_rfl) (by kernel_rfl) (fun _ _ _ h => h) (Or.inl ⟨by kernel_rfl, ?_⟩) (by assumption) ?_
        rotate_left
        · intro w hSw; (try dsimp only at hSw); go_simp; (try with_reducible rfl)
        (try simp only [Act.put, List.getElem_toArray, List.getElem_cons_zero, List.getElem_cons_succ, List.setIfInBounds_toArray, List.set_cons_zero, List.set_cons_succ])
        refine wpAnyH_take (i := 11) (v := ?_) rfl (by kernel_rfl) (by kernel_rfl) (by kernel_rfl) (fun _ _ _ h => h) (Or.inl ⟨by kernel_rfl, ?_⟩) (by assumption) ?_
        rotate_left
        · intro w hSw; (try dsimp only at hSw); go_simp; (try with_reducible rfl)
        (try simp only [Act.put, List.getElem_toArray, List.getElem_cons_zero, List.getElem_cons_succ, List.setIfInBounds_toArray, List.set_cons_zero, List.set_cons_succ])
        refine wpAnyH_done (by kernel_rfl) ?_ _
        have HKQ := Lib.hid kq
        clear kq hS
        clear r0 r1 r2 r3 r4 t0 t1 t2 t3 t4 j0 j1 j2 j3 j4
        go_wp2_with fail
        refine ((within_c (Co.showsP t x lL) (Co.showsP t x l) da ba dc bc y3 HM1.out HM0.out (shows_len HSM.out _ _) (shows_len HSM.out _ _)).mono (fun e w' h => show e = .returned (.bool true) ∧ Kept y3 w' by rwa [decide_eq_true (show ∀ q ∈ Co.showsP t x lL, q ∈ Co.showsP t x l from HSU.out)] at h)).mono ?_
        rintro e y4 ⟨rfl, ky4⟩
        have HKE := Lib.hid (show Kept y3 y4 from ky4)
        clear ky4
        go_wp2_with fail
        refine ((within_c (Co.showsP t x lx) (Co.showsP t x lL) fa da fc dc y4 (HM2.out.kept HKE.out) (HM1.out.kept HKE.out) (shows_len HSM.out _ _) (shows_len HSM.out _ _)).mono (fun e w' h => show e = .returned (.bool true) ∧ Kept y4 w' by rwa [decide_eq_true (show ∀ q ∈ Co.showsP t x lx, q ∈ Co.showsP t x lL from HSUB.out)] at h)).mono ?_
        rintro e y5 ⟨rfl, ky5⟩
        replace HKE := Lib.hid (HKE.out.trans ky5)
        clear ky5
        cases hcls : Wrd.cls u with
        | true =>
          obtain ⟨hbase, hk3, hq⟩ := cls_facts hcls
          have HDEC := Lib.hid (HK3.out hk3)
          have hqb : (u.toList == [63]) = false := lit_no hq
          clear hk3
          have HCC := Lib.hid ((class_c u y5 (by have := HUU.out; unfold maxLen at this; omega)).mono (fun e w' h => show e = .returned (.bool true) ∧ Kept y5 w' by rwa [hcls] at h))
          clear hcls hq
          go_wp2_with fail
          refine (HCC.out).mono ?_
          rintro e y6 ⟨rfl, ky6⟩
          replace HKE := Lib.hid (HKE.out.trans ky6)
          clear ky6 HCC
          go_wp2_with fail
          refine (membersM_c a cp t u y6 (tab_kept HT.out (HKD.out.trans (HKQ.out.trans HKE.out))) HSM.out).mono ?_
          rintro e y7 ⟨ma, mc, rfl, hmm, k7⟩
          replace HKE := Lib.hid (HKE.out.trans k7)
          have HMM := Lib.hid hmm
          clear k7 hmm
          go_wp2_with fail
          refine ((within_c (Tab.members t u) (Co.showsP t x lL) ma da mc dc y7 HMM.out (HM1.out.kept HKE.out) (Nat.le_trans (members_le HSM.out _) (by decide)) (shows_len HSM.out _ _)).mono (fun e w' h => show e = .returned (.bool true) ∧ Kept y7 w' by have h2 := h; rwa [← HDEC.out] at h2)).mono ?_
          rintro e y8 ⟨rfl, ky8⟩
          replace HKE := Lib.hid (HKE.out.trans ky8)
          clear ky8
          have HBC := Lib.hid ((base_c u y8 (HTb.out.kept (HKD.out.trans (HKQ.out.trans HKE.out)))).mono (fun e w' h => show e = .returned (.bool false) ∧ Kept y8 w' by rwa [hbase] at h))
          clear hbase
          go_wp2_with fail
          refine (HBC.out).mono ?_
          rintro e y9 ⟨rfl, ky9⟩
          replace HKE := Lib.hid (HKE.out.trans ky9)
          clear ky9 HBC
          obtain ⟨⟨t0, t1, t2, t3, t4⟩, _⟩ := blk5u (HPB.out.kept (HKQ.out.trans HKE.out))
          go_wp2_with fail
          clear t0 t1 t2 t3 t4
          have HM2W := Lib.hid (HM2.out.kept HKE.out)
          replace HB := Lib.hid (HB.out.kept (HKQ.out.trans HKE.out))
          refine ((oenter_c false x pa pc lx a cp t u lab y9 (tab_kept HT.out (HKD.out.trans (HKQ.out.trans HKE.out))) HSM.out (HTb.out.kept (HKD.out.trans (HKQ.out.trans HKE.out))) (lys_kept HPL.out (HKQ.out.trans HKE.out)) HUU.out HX.out (by have := HSN.out; omega)).mono (fun e w' h => show AnsPost (x, ly) 0 y9 e w' by have := ans_of h; rwa [HENT.out] at this)).mono ?_
          rintro e su ⟨sa, sc, rfl, hly, kn⟩
          obtain ⟨sv, hn⟩ : ∃ W, su.alloc (.cells uZ uT) = W := ⟨_, rfl⟩
          obtain ⟨sq, hq⟩ : ∃ q, su.heap.size = q := ⟨_, rfl⟩
          have km : Kept su sv := by rw [← hn]; exact (Kept.refl _).alloc _
          have HQ := Lib.hid (show Blk sv sq uT uZ by rw [← hn, ← hq]; exact Blk.new _ _ _)
          have HAN := Lib.hid (lys_kept hly km)
          obtain ⟨⟨g0, g1_, g2, g3, g4⟩, f0, f1, f2, f3, f4⟩ := blk5u HQ.out
          obtain ⟨Z4, hY⟩ : ∃ Y, put5u sv sq (.int .i64 x.tag) (.int .i64 x.n) (.int .u64 x.bits) (.string x.s) (.slice sa ly.length sc) = Y := ⟨_, rfl⟩
          have oY : Only (· = sq) sv Z4 := by rw [← hY]; exact put5u_only _ _ _ _ _ _ _
          have HSB := Lib.hid (show Blk Z4 sq uT #[.int .i64 x.tag, .int .i64 x.n, .int .u64 x.bits, .string x.s, .slice sa ly.length sc] by rw [← hY]; exact put5u_blk HQ.out _ _ _ _ _)
          have hkY : Kept y9 Z4 := (kn.trans km).only oY rfl (fun k e => by have := kn.size; omega)
          have HSL := Lib.hid (show LysAt Z4 (.slice sa ly.length sc) ly from lys_put HAN.out HQ.out oY)
          have HKZ4 := Lib.hid ((show Kept w y9 from (HKD.out.trans (HKQ.out.trans HKE.out))).trans hkY)
          replace HM2W := Lib.hid (HM2W.out.kept hkY)
          replace HB := Lib.hid (HB.out.kept hkY)
          have HWN := Lib.hid hn
          have HWQ := Lib.hid hq
          have HWY := Lib.hid (show ((((sv.setCell ⟨sq, 0, none⟩ (.int .i64 x.tag)).setCell ⟨sq, 1, none⟩ (.int .i64 x.n)).setCell ⟨sq, 2, none⟩ (.int .u64 x.bits)).setCell ⟨sq, 3, none⟩ (.string x.s)).setCell ⟨sq, 4, none⟩ (.slice sa ly.length sc) = Z4 from hY)
          clear kn km hn hq oY hkY hY hly HQ HAN
          obtain ⟨⟨r0, r1, r2, r3, r4⟩, _⟩ := blk5u (HB.out)
          obtain ⟨⟨t0, t1, t2, t3, t4⟩, _⟩ := blk5u (HSB.out)
          go_wp2_with (first | rw [HWN.out] | rw [HWQ.out] | rw [HWY.out])
          clear g0 g1_ g2 g3 g4 f0 f1 f2 f3 f4 HWN HWQ HWY
          refine (shows_c x sa sc ly a cp t Z4 (tab_kept HT.out HKZ4.out) HSM.out HSL.out HX.out (by have := HLN.out; omega)).mono ?_
          rintro e z7 ⟨ga, gc, rfl, hmb, k7⟩
          rw [HSAME.out] at hmb ⊢
          have HMG := Lib.hid hmb
          have HK7 := Lib.hid k7
          clear hmb k7
          go_wp2_with fail
          refine (sameM_y (Co.showsP t x lx) ga fa gc fc z7 HMG.out (HM2W.out.kept HK7.out) (shows_len HSM.out _ _)).mono ?_
          rintro e z8 ⟨rfl, kz8⟩
          go_wp2_with fail
          go_ret
          exact ⟨rfl, (HKZ4.out.trans HK7.out).trans kz8⟩
        | false =>
          have HCC := Lib.hid ((class_c u y5 (by have := HUU.out; unfold maxLen at this; omega)).mono (fun e w' h => show e = .returned (.bool false) ∧ Kept y5 w' by rwa [hcls] at h))
          go_wp2_with fail
          refine (HCC.out).mono ?_
          rintro e y6 ⟨rfl, ky6⟩
          replace HKE := Lib.hid (HKE.out.trans ky6)
          clear ky6 HCC
          cases hbase : Wrd.base u with
          | true =>
            exact absurd (HK1.out (base_facts hbase).1) (by simp)
          | false =>
            by_cases hq : u = ⟨#[63]⟩
            · skip
              have hqb : (u.toList == [63]) = true := lit_yes hq
              have HBC := Lib.hid ((base_c u y6 (HTb.out.kept (HKD.out.trans (HKQ.out.trans HKE.out)))).mono (fun e w' h => show e = .returned (.bool false) ∧ Kept y6 w' by rwa [hbase] at h))
              clear hbase hcls hq
              go_wp2_with fail
              refine (HBC.out).mono ?_
              rintro e y9 ⟨rfl, ky9⟩
              replace HKE := Lib.hid (HKE.out.trans ky9)
              clear ky9 HBC
              obtain ⟨⟨t0, t1, t2, t3, t4⟩, _⟩ := blk5u (HPB.out.kept (HKQ.out.trans HKE.out))
              go_wp2_with fail
              clear t0 t1 t2 t3 t4
              have HM2W := Lib.hid (HM2.out.kept HKE.out)
              replace HB := Lib.hid (HB.out.kept (HKQ.out.trans HKE.out))
              refine ((oenter_c false x pa pc lx a cp t u lab y9 (tab_kept HT.out (HKD.out.trans (HKQ.out.trans HKE.out))) HSM.out (HTb.out.kept (HKD.out.trans (HKQ.out.trans HKE.out))) (lys_kept HPL.out (HKQ.out.trans HKE.out)) HUU.out HX.out (by have := HSN.out; omega)).mono (fun e w' h => show AnsPost (x, ly) 0 y9 e w' by have := ans_of h; rwa [HENT.out] at this)).mono ?_
              rintro e su ⟨sa, sc, rfl, hly, kn⟩
              obtain ⟨sv, hn⟩ : ∃ W, su.alloc (.cells uZ uT) = W := ⟨_, rfl⟩
              obtain ⟨sq, hq⟩ : ∃ q, su.heap.size = q := ⟨_, rfl⟩
              have km : Kept su sv := by rw [← hn]; exact (Kept.refl _).alloc _
              have HQ := Lib.hid (show Blk sv sq uT uZ by rw [← hn, ← hq]; exact Blk.new _ _ _)
              have HAN := Lib.hid (lys_kept hly km)
              obtain ⟨⟨g0, g1_, g2, g3, g4⟩, f0, f1, f2, f3, f4⟩ := blk5u HQ.out
              obtain ⟨Z4, hY⟩ : ∃ Y, put5u sv sq (.int .i64 x.tag) (.int .i64 x.n) (.int .u64 x.bits) (.string x.s) (.slice sa ly.length sc) = Y := ⟨_, rfl⟩
              have oY : Only (· = sq) sv Z4 := by rw [← hY]; exact put5u_only _ _ _ _ _ _ _
              have HSB := Lib.hid (show Blk Z4 sq uT #[.int .i64 x.tag, .int .i64 x.n, .int .u64 x.bits, .string x.s, .slice sa ly.length sc] by rw [← hY]; exact put5u_blk HQ.out _ _ _ _ _)
              have hkY : Kept y9 Z4 := (kn.trans km).only oY rfl (fun k e => by have := kn.size; omega)
              have HSL := Lib.hid (show LysAt Z4 (.slice sa ly.length sc) ly from lys_put HAN.out HQ.out oY)
              have HKZ4 := Lib.hid ((show Kept w y9 from (HKD.out.trans (HKQ.out.trans HKE.out))).trans hkY)
              replace HM2W := Lib.hid (HM2W.out.kept hkY)
              replace HB := Lib.hid (HB.out.kept hkY)
              have HWN := Lib.hid hn
              have HWQ := Lib.hid hq
              have HWY := Lib.hid (show ((((sv.setCell ⟨sq, 0, none⟩ (.int .i64 x.tag)).setCell ⟨sq, 1, none⟩ (.int .i64 x.n)).setCell ⟨sq, 2, none⟩ (.int .u64 x.bits)).setCell ⟨sq, 3, none⟩ (.string x.s)).setCell ⟨sq, 4, none⟩ (.slice sa ly.length sc) = Z4 from hY)
              clear kn km hn hq oY hkY hY hly HQ HAN
              obtain ⟨⟨r0, r1, r2, r3, r4⟩, _⟩ := blk5u (HB.out)
              obtain ⟨⟨t0, t1, t2, t3, t4⟩, _⟩ := blk5u (HSB.out)
              go_wp2_with (first | rw [HWN.out] | rw [HWQ.out] | rw [HWY.out])
              clear g0 g1_ g2 g3 g4 f0 f1 f2 f3 f4 HWN HWQ HWY
              refine (shows_c x sa sc ly a cp t Z4 (tab_kept HT.out HKZ4.out) HSM.out HSL.out HX.out (by have := HLN.out; omega)).mono ?_
              rintro e z7 ⟨ga, gc, rfl, hmb, k7⟩
              rw [HSAME.out] at hmb ⊢
              have HMG := Lib.hid hmb
              have HK7 := Lib.hid k7
              clear hmb k7
              go_wp2_with fail
              refine (sameM_y (Co.showsP t x lx) ga fa gc fc z7 HMG.out (HM2W.out.kept HK7.out) (shows_len HSM.out _ _)).mono ?_
              rintro e z8 ⟨rfl, kz8⟩
              go_wp2_with fail
              go_ret
              exact ⟨rfl, (HKZ4.out.trans HK7.out).trans kz8⟩
            · exact absurd (HK0.out (kind_0 hbase hq hcls)) (by simp)
      | false =>
        obtain ⟨hb, hvx, hlx⟩ := HNO.out rfl
        rw [hb] at HSB
        have HVX := Lib.hid hvx
        have HVL := Lib.hid hlx
        clear hvx hlx hb HYES HNO
        obtain ⟨⟨r0, r1, r2, r3, r4⟩, _⟩ := blk5u (HB.out)
        go_wp2_with fail
        have HCA := Lib.hid (show Calls Tryd.prog 25 #[.slice a t.length cp, vV x (.slice va l.length vc), .string s, .string u, .int .i64 lab, .bool false] w5 (AnsPost (vx, lx) lab w5) from (ocast_c false x va vc l a cp t s u lab w5 (tab_kept HT.out HKU.out) HSM.out (HTb.out.kept HKU.out) HLY.out HSS.out HUU.out HX.out (by have := HL0.out; omega)).mono (fun e w' h => by have := ans_of h; rwa [HSV.out, HSB.out] at this))
        clear r0 r1 r2 r3 r4
        refine (HCA.out).mono ?_
        rintro e pu ⟨pa, pc, rfl, hly, kn⟩
        obtain ⟨pv, hn⟩ : ∃ W, pu.alloc (.cells uZ uT) = W := ⟨_, rfl⟩
        obtain ⟨pq, hq⟩ : ∃ q, pu.heap.size = q := ⟨_, rfl⟩
        have km : Kept pu pv := by rw [← hn]; exact (Kept.refl _).alloc _
        have HQ := Lib.hid (show Blk pv pq uT uZ by rw [← hn, ← hq]; exact Blk.new _ _ _)
        have HAN := Lib.hid (lys_kept hly km)
        obtain ⟨⟨g0, g1_, g2, g3, g4⟩, f0, f1, f2, f3, f4⟩ := blk5u HQ.out
        obtain ⟨Z1, hY⟩ : ∃ Y, put5u pv pq (.int .i64 vx.tag) (.int .i64 vx.n) (.int .u64 vx.bits) (.string vx.s) (.slice pa lx.length pc) = Y := ⟨_, rfl⟩
        have oY : Only (· = pq) pv Z1 := by rw [← hY]; exact put5u_only _ _ _ _ _ _ _
        have HPB := Lib.hid (show Blk Z1 pq uT #[.int .i64 vx.tag, .int .i64 vx.n, .int .u64 vx.bits, .string vx.s, .slice pa lx.length pc] by rw [← hY]; exact put5u_blk HQ.out _ _ _ _ _)
        have hkY : Kept w5 Z1 := (kn.trans km).only oY rfl (fun k e => by have := kn.size; omega)
        have HPL := Lib.hid (show LysAt Z1 (.slice pa lx.length pc) lx from lys_put HAN.out HQ.out oY)
        have HKZ1 := Lib.hid ((show Kept w w5 from HKU.out).trans hkY)
        replace HB := Lib.hid (HB.out.kept hkY)
        replace HLY := Lib.hid (lys_kept HLY.out hkY)
        have HWN := Lib.hid hn
        have HWQ := Lib.hid hq
        have HWY := Lib.hid (show ((((pv.setCell ⟨pq, 0, none⟩ (.int .i64 vx.tag)).setCell ⟨pq, 1, none⟩ (.int .i64 vx.n)).setCell ⟨pq, 2, none⟩ (.int .u64 vx.bits)).setCell ⟨pq, 3, none⟩ (.string vx.s)).setCell ⟨pq, 4, none⟩ (.slice pa lx.length pc) = Z1 from hY)
        clear kn km hn hq oY hkY hY hly HQ HAN
        obtain ⟨⟨r0, r1, r2, r3, r4⟩, _⟩ := blk5u (HB.out)
        go_wp2_with (first | rw [HWN.out] | rw [HWQ.out] | rw [HWY.out])
        clear g0 g1_ g2 g3 g4 f0 f1 f2 f3 f4 HWN HWQ HWY
        clear r0 r1 r2 r3 r4
        refine ((oleave_c false x va vc l a cp t s (wrap64 (-lab)) Z1 (tab_kept HT.out HKZ1.out) HSM.out (HTb.out.kept HKZ1.out) HLY.out HSS.out HX.out (by have := HL0.out; omega)).mono (fun e w' h => show LeavePost x lL Z1 e w' by have := h; rwa [HSL.out] at this)).mono ?_
        rintro e nu ⟨kn, na, nc, rfl, hrow, hfi⟩
        have hly := owns_lys hrow hfi
        clear hrow hfi
        obtain ⟨nv, hn⟩ : ∃ W, nu.alloc (.cells uZ uT) = W := ⟨_, rfl⟩
        obtain ⟨nq, hq⟩ : ∃ q, nu.heap.size = q := ⟨_, rfl⟩
        have km : Kept nu nv := by rw [← hn]; exact (Kept.refl _).alloc _
        have HQ := Lib.hid (show Blk nv nq uT uZ by rw [← hn, ← hq]; exact Blk.new _ _ _)
        have HAN := Lib.hid (lys_kept hly km)
        obtain ⟨⟨g0, g1_, g2, g3, g4⟩, f0, f1, f2, f3, f4⟩ := blk5u HQ.out
        obtain ⟨Z2, hY⟩ : ∃ Y, put5u nv nq (.int .i64 x.tag) (.int .i64 x.n) (.int .u64 x.bits) (.string x.s) (.slice na lL.length nc) = Y := ⟨_, rfl⟩
        have oY : Only (· = nq) nv Z2 := by rw [← hY]; exact put5u_only _ _ _ _ _ _ _
        have HNB := Lib.hid (show Blk Z2 nq uT #[.int .i64 x.tag, .int .i64 x.n, .int .u64 x.bits, .string x.s, .slice na lL.length nc] by rw [← hY]; exact put5u_blk HQ.out _ _ _ _ _)
        have hkY : Kept Z1 Z2 := (kn.trans km).only oY rfl (fun k e => by have := kn.size; omega)
        have HNL := Lib.hid (show LysAt Z2 (.slice na lL.length nc) lL from lys_put HAN.out HQ.out oY)
        have HKZ2 := Lib.hid ((show Kept w Z1 from HKZ1.out).trans hkY)
        replace HB := Lib.hid (HB.out.kept hkY)
        replace HLY := Lib.hid (lys_kept HLY.out hkY)
        replace HPB := Lib.hid (HPB.out.kept hkY)
        replace HPL := Lib.hid (lys_kept HPL.out hkY)
        have HWN := Lib.hid hn
        have HWQ := Lib.hid hq
        have HWY := Lib.hid (show ((((nv.setCell ⟨nq, 0, none⟩ (.int .i64 x.tag)).setCell ⟨nq, 1, none⟩ (.int .i64 x.n)).setCell ⟨nq, 2, none⟩ (.int .u64 x.bits)).setCell ⟨nq, 3, none⟩ (.string x.s)).setCell ⟨nq, 4, none⟩ (.slice na lL.length nc) = Z2 from hY)
        clear kn km hn hq oY hkY hY hly HQ HAN
        obtain ⟨D, hD⟩ : ∃ D, Z2.drew = D := ⟨_, rfl⟩
        have kD : Kept Z2 D := by rw [← hD]; exact (Kept.refl _).drew
        replace HB := Lib.hid (HB.out.kept kD)
        replace HLY := Lib.hid (lys_kept HLY.out kD)
        replace HPB := Lib.hid (HPB.out.kept kD)
        replace HPL := Lib.hid (lys_kept HPL.out kD)
        replace HNB := Lib.hid (HNB.out.kept kD)
        replace HNL := Lib.hid (lys_kept HNL.out kD)
        have HKD := Lib.hid (HKZ2.out.trans kD)
        clear kD HKZ1
        go_wp2_with (first | rw [HWN.out] | rw [HWQ.out] | rw [HWY.out])
        clear g0 g1_ g2 g3 g4 f0 f1 f2 f3 f4 HWN HWQ HWY
        obtain ⟨⟨r0, r1, r2, r3, r4⟩, _⟩ := blk5u (HB.out)
        obtain ⟨⟨t0, t1, t2, t3, t4⟩, _⟩ := blk5u (HPB.out)
        obtain ⟨⟨j0, j1, j2, j3, j4⟩, _⟩ := blk5u (HNB.out)
        have hS := fun W (k : Kept D W) => And.intro (k.cell r0) (And.intro (k.cell r1) (And.intro (k.cell r2) (And.intro (k.cell r3) (And.intro (k.cell r4) (And.intro (k.cell t0) (And.intro (k.cell t1) (And.intro (k.cell t2) (And.intro (k.cell t3) (And.intro (k.cell t4) (And.intro (k.cell j0) (And.intro (k.cell j1) (And.intro (k.cell j2) (And.intro (k.cell j3) (k.cell j4))))))))))))))
        refine wp_region_held_drew (S := (fun W => W.cell? ⟨g1, 0, none⟩ = some (.int .i64 x.tag) ∧ W.cell? ⟨g1, 1, none⟩ = some (.int .i64 x.n) ∧ W.cell? ⟨g1, 2, none⟩ = some (.int .u64 x.bits) ∧ W.cell? ⟨g1, 3, none⟩ = some (.string x.s) ∧ W.cell? ⟨g1, 4, none⟩ = some (.slice va l.length vc) ∧ W.cell? ⟨pq, 0, none⟩ = some (.int .i64 vx.tag) ∧ W.cell? ⟨pq, 1, none⟩ = some (.int .i64 vx.n) ∧ W.cell? ⟨pq, 2, none⟩ = some (.int .u64 vx.bits) ∧ W.cell? ⟨pq, 3, none⟩ = some (.string vx.s) ∧ W.cell? ⟨pq, 4, none⟩ = some (.slice pa lx.length pc) ∧ W.cell? ⟨nq, 0, none⟩ = some (.int .i64 x.tag) ∧ W.cell? ⟨nq, 1, none⟩ = some (.int .i64 x.n) ∧ W.cell? ⟨nq, 2, none⟩ = some (.int .u64 x.bits) ∧ W.cell? ⟨nq, 3, none⟩ = some (.string x.s) ∧ W.cell? ⟨nq, 4, none⟩ = some (.slice na lL.length nc))) (by kernel_rfl) (by rw [hD]; exact hS D (Kept.refl _)) (fun hHeld0 => ?_)
        rw [hD] at hHeld0 ⊢
        clear hD
        have kq : Kept D D := Kept.refl _
        refine wpAnyH_take (i := 0) (v := ?_) rfl (by kernel_rfl) (by kernel_rfl) (by kernel_rfl) (fun _ _ _ h => h) (Or.inl ⟨by kernel_rfl, ?_⟩) (by assumption) ?_
        rotate_left
        · intro w hSw; (try dsimp only at hSw); go_simp; (try with_reducible rfl)
        (try simp only [Act.put, List.getElem_toArray, List.getElem_cons_zero, List.getElem_cons_succ, List.setIfInBounds_toArray, List.set_cons_zero, List.set_cons_succ])
        refine wpAnyH_take (i := 1) (v := ?_) rfl (by kernel_rfl) (by kernel_rfl) (by kernel_rfl) (fun _ _ _ h => h) (Or.inl ⟨by kernel_rfl, ?_⟩) (by assumption) ?_
        rotate_left
        · intro w hSw; (try dsimp only at hSw); go_simp; (try with_reducible rfl)
        (try simp only [Act.put, List.getElem_toArray, List.getElem_cons_zero, List.getElem_cons_succ, List.setIfInBounds_toArray, List.set_cons_zero, List.set_cons_succ])
        refine wpAnyH_take (i := 3) (v := ?_) rfl (by kernel_rfl) (by kernel_rfl) (by kernel_rfl) (fun _ _ _ h => h) (Or.inl ⟨by kernel_rfl, ?_⟩) (by assumption) ?_
        rotate_left
        · intro w hSw; (try dsimp only at hSw); go_simp; (try with_reducible rfl)
        (try simp only [Act.put, List.getElem_toArray, List.getElem_cons_zero, List.getElem_cons_succ, List.setIfInBounds_toArray, List.set_cons_zero, List.set_cons_succ])
        refine wpAnyH_take (i := 4) (v := ?_) rfl (by kernel_rfl) (by kernel_rfl) (by kernel_rfl) (fun _ _ _ h => h) (Or.inl ⟨by kernel_rfl, ?_⟩) (by assumption) ?_
        rotate_left
        · intro w hSw; (try dsimp only at hSw); go_simp; (try with_reducible rfl)
        (try simp only [Act.put, List.getElem_toArray, List.getElem_cons_zero, List.getElem_cons_succ, List.setIfInBounds_toArray, List.set_cons_zero, List.set_cons_succ])
        refine wpAnyH_take (i := 6) (v := ?_) rfl (by kernel_rfl) (by kernel_rfl) (by kernel_rfl) (fun _ _ _ h => h) (Or.inl ⟨by kernel_rfl, ?_⟩) (by assumption) ?_
        rotate_left
        · intro w hSw; (try dsimp only at hSw); go_simp; (try with_reducible rfl)
        (try simp only [Act.put, List.getElem_toArray, List.getElem_cons_zero, List.getElem_cons_succ, List.setIfInBounds_toArray, List.set_cons_zero, List.set_cons_succ])
        refine wpAnyH_take (i := 7) (v := ?_) rfl (by kernel_rfl) (by kernel_rfl) (by kernel_rfl) (fun _ _ _ h => h) (Or.inl ⟨by kernel_rfl, ?_⟩) (by assumption) ?_
        rotate_left
        · intro w hSw; (try dsimp only at hSw); go_simp; (try with_reducible rfl)
        (try simp only [Act.put, List.getElem_toArray, List.getElem_cons_zero, List.getElem_cons_succ, List.setIfInBounds_toArray, List.set_cons_zero, List.set_cons_succ])
        refine wpAnyH_ready (rs := [2]) (by kernel_rfl) (by simp) ?_
        refine AllReadyH.cons rfl (fun K hK => ?_) AllReadyH.nil
        go_simp
        refine (shows_c x va vc l a cp t D (tab_kept HT.out (HKD.out.trans kq)) HSM.out (lys_kept HLY.out kq) HX.out (by have := HL0.out; have := HSN.out; omega)).mono ?_
        rintro e y1 ⟨ba, bc, rfl, hmb, kn⟩
        have HM0 := Lib.hid hmb
        clear hmb
        replace kq := kq.trans kn
        clear kn
        refine hK.out _ _ (hS _ kq) (fun hHeld1 => ?_)
        clear hK K
        (try simp only [Act.put, List.getElem_toArray, List.getElem_cons_zero, List.getElem_cons_succ, List.setIfInBounds_toArray, List.set_cons_zero, List.set_cons_succ])
        refine wpAnyH_ready (rs := [5]) (by kernel_rfl) (by simp) ?_
        refine AllReadyH.cons rfl (fun K hK => ?_) AllReadyH.nil
        go_simp
        refine (shows_c x na nc lL a cp t y1 (tab_kept HT.out (HKD.out.trans kq)) HSM.out (lys_kept HNL.out kq) HX.out (by have := HL0.out; have := HSN.out; omega)).mono ?_
        rintro e y2 ⟨da, dc, rfl, hmb, kn⟩
        have HM1 := Lib.hid hmb
        clear hmb
        replace HM0 := Lib.hid (HM0.out.kept kn)
        replace kq := kq.trans kn
        clear kn
        refine hK.out _ _ (hS _ kq) (fun hHeld2 => ?_)
        clear hK K
        (try simp only [Act.put, List.getElem_toArray, List.getElem_cons_zero, List.getElem_cons_succ, List.setIfInBounds_toArray, List.set_cons_zero, List.set_cons_succ])
        refine wpAnyH_ready (rs := [8]) (by kernel_rfl) (by simp) ?_
        refine AllReadyH.cons rfl (fun K hK => ?_) AllReadyH.nil
        go_simp
        refine (shows_c vx pa pc lx a cp t y2 (tab_kept HT.out (HKD.out.trans kq)) HSM.out (lys_kept HPL.out kq) (small_zW HVX.out) (by have := HL0.out; have := HSN.out; omega)).mono ?_
        rintro e y3 ⟨fa, fc, rfl, hmb, kn⟩
        have HM2 := Lib.hid hmb
        clear hmb
        replace HM0 := Lib.hid (HM0.out.kept kn)
        replace HM1 := Lib.hid (HM1.out.kept kn)
        replace kq := kq.trans kn
        clear kn
        refine hK.out _ _ (hS _ kq) (fun hHeld3 => ?_)
        clear hK K
        (try simp only [Act.put, List.getElem_toArray, List.getElem_cons_zero, List.getElem_cons_succ, List.setIfInBounds_toArray, List.set_cons_zero, List.set_cons_succ])
        refine wpAnyH_take (i := 9) (v := ?_) rfl (by kernel_rfl) (by kernel_rfl) (by kernel_rfl) (fun _ _ _ h => h) (Or.inl ⟨by kernel_rfl, ?_⟩) (by assumption) ?_
        rotate_left
        · intro w hSw; (try dsimp only at hSw); go_simp; (try with_reducible rfl)
        (try simp only [Act.put, List.getElem_toArray, List.getElem_cons_zero, List.getElem_cons_succ, List.setIfInBounds_toArray, List.set_cons_zero, List.set_cons_succ])
        refine wpAnyH_take (i := 10) (v := ?_) rfl (by kernel_rfl) (by kernel_rfl) (by kernel_rfl) (fun _ _ _ h => h) (Or.inl ⟨by kernel_rfl, ?_⟩) (by assumption) ?_
        rotate_left
        · intro w hSw; (try dsimp only at hSw); go_simp; (try with_reducible rfl)
        (try simp only [Act.put, List.getElem_toArray, List.getElem_cons_zero, List.getElem_cons_succ, List.setIfInBounds_toArray, List.set_cons_zero, List.set_cons_succ])
        refine wpAnyH_take (i := 11) (v := ?_) rfl (by kernel_rfl) (by kernel_rfl) (by kernel_rfl) (fun _ _ _ h => h) (Or.inl ⟨by kernel_rfl, ?_⟩) (by assumption) ?_
        rotate_left
        · intro w hSw; (try dsimp only at hSw); go_simp; (try with_reducible rfl)
        (try simp only [Act.put, List.getElem_toArray, List.getElem_cons_zero, List.getElem_cons_succ, List.setIfInBounds_toArray, List.set_cons_zero, List.set_cons_succ])
        refine wpAnyH_done (by kernel_rfl) ?_ _
        have HKQ := Lib.hid kq
        clear kq hS
        clear r0 r1 r2 r3 r4 t0 t1 t2 t3 t4 j0 j1 j2 j3 j4
        go_wp2_with fail
        refine ((within_c (Co.showsP t x lL) (Co.showsP t x l) da ba dc bc y3 HM1.out HM0.out (shows_len HSM.out _ _) (shows_len HSM.out _ _)).mono (fun e w' h => show e = .returned (.bool true) ∧ Kept y3 w' by rwa [decide_eq_true (show ∀ q ∈ Co.showsP t x lL, q ∈ Co.showsP t x l from HSU.out)] at h)).mono ?_
        rintro e y4 ⟨rfl, ky4⟩
        have HKE := Lib.hid (show Kept y3 y4 from ky4)
        clear ky4
        cases hcls : Wrd.cls u with
        | true =>
          obtain ⟨hbase, hk3, hq⟩ := cls_facts hcls
          have HDEC := Lib.hid (HK3.out hk3)
          have hqb : (u.toList == [63]) = false := lit_no hq
          clear hk3
          have HCC := Lib.hid ((class_c u y4 (by have := HUU.out; unfold maxLen at this; omega)).mono (fun e w' h => show e = .returned (.bool true) ∧ Kept y4 w' by rwa [hcls] at h))
          clear hcls hq
          go_wp2_with fail
          refine (HCC.out).mono ?_
          rintro e y6 ⟨rfl, ky6⟩
          replace HKE := Lib.hid (HKE.out.trans ky6)
          clear ky6 HCC
          go_wp2_with fail
          refine (membersM_c a cp t u y6 (tab_kept HT.out (HKD.out.trans (HKQ.out.trans HKE.out))) HSM.out).mono ?_
          rintro e y7 ⟨ma, mc, rfl, hmm, k7⟩
          replace HKE := Lib.hid (HKE.out.trans k7)
          have HMM := Lib.hid hmm
          clear k7 hmm
          go_wp2_with fail
          refine ((within_c (Tab.members t u) (Co.showsP t x lL) ma da mc dc y7 HMM.out (HM1.out.kept HKE.out) (Nat.le_trans (members_le HSM.out _) (by decide)) (shows_len HSM.out _ _)).mono (fun e w' h => show e = .returned (.bool false) ∧ Kept y7 w' by have h2 := h; rwa [← HDEC.out] at h2)).mono ?_
          rintro e y8 ⟨rfl, ky8⟩
          replace HKE := Lib.hid (HKE.out.trans ky8)
          clear ky8
          have HBC := Lib.hid ((base_c u y8 (HTb.out.kept (HKD.out.trans (HKQ.out.trans HKE.out)))).mono (fun e w' h => show e = .returned (.bool false) ∧ Kept y8 w' by rwa [hbase] at h))
          clear hbase
          go_wp2_with fail
          refine (HBC.out).mono ?_
          rintro e y9 ⟨rfl, ky9⟩
          replace HKE := Lib.hid (HKE.out.trans ky9)
          clear ky9 HBC
          obtain ⟨⟨t0, t1, t2, t3, t4⟩, _⟩ := blk5u (HPB.out.kept (HKQ.out.trans HKE.out))
          go_wp2_with fail
          refine ((sameV_c vx zW lx [] pa none pc 0 y9 (lys_kept HPL.out (HKQ.out.trans HKE.out)) Row.nil).mono (fun e w' h => show e = .returned (.bool true) ∧ Kept y9 w' by rwa [decide_eq_true (show vx = zW ∧ lx = [] from ⟨HVX.out, HVL.out⟩)] at h)).mono ?_
          rintro e z9 ⟨rfl, kz9⟩
          go_wp2_with fail
          go_ret
          exact ⟨rfl, (HKD.out.trans (HKQ.out.trans HKE.out)).trans kz9⟩
        | false =>
          have HCC := Lib.hid ((class_c u y4 (by have := HUU.out; unfold maxLen at this; omega)).mono (fun e w' h => show e = .returned (.bool false) ∧ Kept y4 w' by rwa [hcls] at h))
          go_wp2_with fail
          refine (HCC.out).mono ?_
          rintro e y6 ⟨rfl, ky6⟩
          replace HKE := Lib.hid (HKE.out.trans ky6)
          clear ky6 HCC
          cases hbase : Wrd.base u with
          | true =>
            have hqb : (u.toList == [63]) = false := lit_no (base_noq hbase)
            have HBC := Lib.hid ((base_c u y6 (HTb.out.kept (HKD.out.trans (HKQ.out.trans HKE.out)))).mono (fun e w' h => show e = .returned (.bool true) ∧ Kept y6 w' by rwa [hbase] at h))
            clear hbase hcls
            go_wp2_with fail
            refine (HBC.out).mono ?_
            rintro e y9 ⟨rfl, ky9⟩
            replace HKE := Lib.hid (HKE.out.trans ky9)
            clear ky9 HBC
            obtain ⟨⟨t0, t1, t2, t3, t4⟩, _⟩ := blk5u (HPB.out.kept (HKQ.out.trans HKE.out))
            go_wp2_with fail
            refine ((sameV_c vx zW lx [] pa none pc 0 y9 (lys_kept HPL.out (HKQ.out.trans HKE.out)) Row.nil).mono (fun e w' h => show e = .returned (.bool true) ∧ Kept y9 w' by rwa [decide_eq_true (show vx = zW ∧ lx = [] from ⟨HVX.out, HVL.out⟩)] at h)).mono ?_
            rintro e z9 ⟨rfl, kz9⟩
            go_wp2_with fail
            go_ret
            exact ⟨rfl, (HKD.out.trans (HKQ.out.trans HKE.out)).trans kz9⟩
          | false =>
            by_cases hq : u = ⟨#[63]⟩
            · exact absurd (HK2.out (kind_q hbase hq)) (by simp)
            · skip
              have hqb : (u.toList == [63]) = false := lit_no hq
              have HBC := Lib.hid ((base_c u y6 (HTb.out.kept (HKD.out.trans (HKQ.out.trans HKE.out)))).mono (fun e w' h => show e = .returned (.bool false) ∧ Kept y6 w' by rwa [hbase] at h))
              clear hbase hcls hq
              go_wp2_with fail
              refine (HBC.out).mono ?_
              rintro e y9 ⟨rfl, ky9⟩
              replace HKE := Lib.hid (HKE.out.trans ky9)
              clear ky9 HBC
              obtain ⟨⟨t0, t1, t2, t3, t4⟩, _⟩ := blk5u (HPB.out.kept (HKQ.out.trans HKE.out))
              go_wp2_with fail
              refine ((sameV_c vx zW lx [] pa none pc 0 y9 (lys_kept HPL.out (HKQ.out.trans HKE.out)) Row.nil).mono (fun e w' h => show e = .returned (.bool true) ∧ Kept y9 w' by rwa [decide_eq_true (show vx = zW ∧ lx = [] from ⟨HVX.out, HVL.out⟩)] at h)).mono ?_
              rintro e z9 ⟨rfl, kz9⟩
              go_wp2_with fail
              go_ret
              exact ⟨rfl, (HKD.out.trans (HKQ.out.trans HKE.out)).trans kz9⟩
    · have c7 : (x.tag != 7) = true := by simpa using h7
      have HBS := Lib.hid (Co.cast_base (t := t) h7 false l s u lab)
      clear h7
      cases hf : Co.fitsB t x l u with
      | true =>
        rw [hf, if_pos rfl] at HBS
        clear hf
        obtain ⟨⟨r0, r1, r2, r3, r4⟩, _⟩ := blk5u (HB.out)
        go_wp2_with fail
        have HCA := Lib.hid (show Calls Tryd.prog 25 #[.slice a t.length cp, vV x (.slice va l.length vc), .string s, .string u, .int .i64 lab, .bool false] w5 (AnsPost (x, l) 0 w5) from (ocast_c false x va vc l a cp t s u lab w5 (tab_kept HT.out HKU.out) HSM.out (HTb.out.kept HKU.out) HLY.out HSS.out HUU.out HX.out (by have := HL0.out; omega)).mono (fun e w' h => by have := ans_of h; rwa [HBS.out] at this))
        clear r0 r1 r2 r3 r4
        refine (HCA.out).mono ?_
        rintro e pu ⟨pa, pc, rfl, hly, kn⟩
        obtain ⟨pv, hn⟩ : ∃ W, pu.alloc (.cells uZ uT) = W := ⟨_, rfl⟩
        obtain ⟨pq, hq⟩ : ∃ q, pu.heap.size = q := ⟨_, rfl⟩
        have km : Kept pu pv := by rw [← hn]; exact (Kept.refl _).alloc _
        have HQ := Lib.hid (show Blk pv pq uT uZ by rw [← hn, ← hq]; exact Blk.new _ _ _)
        have HAN := Lib.hid (lys_kept hly km)
        obtain ⟨⟨g0, g1_, g2, g3, g4⟩, f0, f1, f2, f3, f4⟩ := blk5u HQ.out
        obtain ⟨Z1, hY⟩ : ∃ Y, put5u pv pq (.int .i64 x.tag) (.int .i64 x.n) (.int .u64 x.bits) (.string x.s) (.slice pa l.length pc) = Y := ⟨_, rfl⟩
        have oY : Only (· = pq) pv Z1 := by rw [← hY]; exact put5u_only _ _ _ _ _ _ _
        have HPB := Lib.hid (show Blk Z1 pq uT #[.int .i64 x.tag, .int .i64 x.n, .int .u64 x.bits, .string x.s, .slice pa l.length pc] by rw [← hY]; exact put5u_blk HQ.out _ _ _ _ _)
        have hkY : Kept w5 Z1 := (kn.trans km).only oY rfl (fun k e => by have := kn.size; omega)
        have HPL := Lib.hid (show LysAt Z1 (.slice pa l.length pc) l from lys_put HAN.out HQ.out oY)
        have HKZ1 := Lib.hid ((show Kept w w5 from HKU.out).trans hkY)
        replace HB := Lib.hid (HB.out.kept hkY)
        replace HLY := Lib.hid (lys_kept HLY.out hkY)
        have HWN := Lib.hid hn
        have HWQ := Lib.hid hq
        have HWY := Lib.hid (show ((((pv.setCell ⟨pq, 0, none⟩ (.int .i64 x.tag)).setCell ⟨pq, 1, none⟩ (.int .i64 x.n)).setCell ⟨pq, 2, none⟩ (.int .u64 x.bits)).setCell ⟨pq, 3, none⟩ (.string x.s)).setCell ⟨pq, 4, none⟩ (.slice pa l.length pc) = Z1 from hY)
        clear kn km hn hq oY hkY hY hly HQ HAN
        obtain ⟨⟨r0, r1, r2, r3, r4⟩, _⟩ := blk5u (HB.out)
        obtain ⟨⟨t0, t1, t2, t3, t4⟩, _⟩ := blk5u (HPB.out)
        go_wp2_with (first | rw [HWN.out] | rw [HWQ.out] | rw [HWY.out])
        clear g0 g1_ g2 g3 g4 f0 f1 f2 f3 f4 HWN HWQ HWY
        refine (sameV_y x l pa va pc vc Z1 HPL.out HLY.out).mono ?_
        rintro e z9 ⟨rfl, kz9⟩
        go_wp2_with fail
        go_ret
        exact ⟨rfl, HKZ1.out.trans kz9⟩
      | false =>
        rw [hf, if_neg (by simp)] at HBS
        clear hf
        obtain ⟨vx, hvx⟩ : ∃ v, zW = v := ⟨_, rfl⟩
        obtain ⟨lx, hlx⟩ : ∃ v : List Ly, [] = v := ⟨_, rfl⟩
        have HSV := Lib.hid (show Co.valR x (Co.sent false l (Co.castR t x l s u lab)) = (vx, lx) by rw [HBS.out, ← hvx, ← hlx]; rfl)
        have HSB := Lib.hid (show Co.labR (Co.sent false l (Co.castR t x l s u lab)) = lab by rw [HBS.out]; rfl)
        have HVX := Lib.hid hvx
        have HVL := Lib.hid hlx
        clear hvx hlx HBS
        obtain ⟨⟨r0, r1, r2, r3, r4⟩, _⟩ := blk5u (HB.out)
        go_wp2_with fail
        have HCA := Lib.hid (show Calls Tryd.prog 25 #[.slice a t.length cp, vV x (.slice va l.length vc), .string s, .string u, .int .i64 lab, .bool false] w5 (AnsPost (vx, lx) lab w5) from (ocast_c false x va vc l a cp t s u lab w5 (tab_kept HT.out HKU.out) HSM.out (HTb.out.kept HKU.out) HLY.out HSS.out HUU.out HX.out (by have := HL0.out; omega)).mono (fun e w' h => by have := ans_of h; rwa [HSV.out, HSB.out] at this))
        clear r0 r1 r2 r3 r4
        refine (HCA.out).mono ?_
        rintro e pu ⟨pa, pc, rfl, hly, kn⟩
        obtain ⟨pv, hn⟩ : ∃ W, pu.alloc (.cells uZ uT) = W := ⟨_, rfl⟩
        obtain ⟨pq, hq⟩ : ∃ q, pu.heap.size = q := ⟨_, rfl⟩
        have km : Kept pu pv := by rw [← hn]; exact (Kept.refl _).alloc _
        have HQ := Lib.hid (show Blk pv pq uT uZ by rw [← hn, ← hq]; exact Blk.new _ _ _)
        have HAN := Lib.hid (lys_kept hly km)
        obtain ⟨⟨g0, g1_, g2, g3, g4⟩, f0, f1, f2, f3, f4⟩ := blk5u HQ.out
        obtain ⟨Z1, hY⟩ : ∃ Y, put5u pv pq (.int .i64 vx.tag) (.int .i64 vx.n) (.int .u64 vx.bits) (.string vx.s) (.slice pa lx.length pc) = Y := ⟨_, rfl⟩
        have oY : Only (· = pq) pv Z1 := by rw [← hY]; exact put5u_only _ _ _ _ _ _ _
        have HPB := Lib.hid (show Blk Z1 pq uT #[.int .i64 vx.tag, .int .i64 vx.n, .int .u64 vx.bits, .string vx.s, .slice pa lx.length pc] by rw [← hY]; exact put5u_blk HQ.out _ _ _ _ _)
        have hkY : Kept w5 Z1 := (kn.trans km).only oY rfl (fun k e => by have := kn.size; omega)
        have HPL := Lib.hid (show LysAt Z1 (.slice pa lx.length pc) lx from lys_put HAN.out HQ.out oY)
        have HKZ1 := Lib.hid ((show Kept w w5 from HKU.out).trans hkY)
        replace HB := Lib.hid (HB.out.kept hkY)
        replace HLY := Lib.hid (lys_kept HLY.out hkY)
        have HWN := Lib.hid hn
        have HWQ := Lib.hid hq
        have HWY := Lib.hid (show ((((pv.setCell ⟨pq, 0, none⟩ (.int .i64 vx.tag)).setCell ⟨pq, 1, none⟩ (.int .i64 vx.n)).setCell ⟨pq, 2, none⟩ (.int .u64 vx.bits)).setCell ⟨pq, 3, none⟩ (.string vx.s)).setCell ⟨pq, 4, none⟩ (.slice pa lx.length pc) = Z1 from hY)
        clear kn km hn hq oY hkY hY hly HQ HAN
        obtain ⟨⟨r0, r1, r2, r3, r4⟩, _⟩ := blk5u (HB.out)
        obtain ⟨⟨t0, t1, t2, t3, t4⟩, _⟩ := blk5u (HPB.out)
        go_wp2_with (first | rw [HWN.out] | rw [HWQ.out] | rw [HWY.out])
        clear g0 g1_ g2 g3 g4 f0 f1 f2 f3 f4 HWN HWQ HWY
        refine ((sameV_c vx zW lx [] pa none pc 0 Z1 HPL.out Row.nil).mono (fun e w' h => show e = .returned (.bool true) ∧ Kept Z1 w' by rwa [decide_eq_true (show vx = zW ∧ lx = [] from ⟨HVX.out.symm, HVL.out.symm⟩)] at h)).mono ?_
        rintro e z9 ⟨rfl, kz9⟩
        go_wp2_with fail
        go_ret
        exact ⟨rfl, HKZ1.out.trans kz9⟩
end Go.Proofs.YtdceafncncgfbaaDoor

/- CoerceShrinks' walk, in the order of its card; a value that came in. -/
set_option linter.unusedSimpArgs false
set_option linter.unusedVariables false
set_option maxRecDepth 100000
namespace Go.Proofs.YtdceafncncgfbaaDoor
open Go.ChangeShapes Go.WideShapes Go.ChangeAt Go.RowKit Go.Deep

theorem vw_fields : ∃ fs : Array Field, Tryd.prog.underlying 27 = some (.struct fs) ∧ oneCellFields Tryd.prog fs = true ∧ fs.size = 5 ∧ (∃ f, fs[0]? = some f ∧ f.type = 3) ∧ (∃ f, fs[1]? = some f ∧ f.type = 3) ∧ (∃ f, fs[2]? = some f ∧ f.type = 24) ∧ (∃ f, fs[3]? = some f ∧ f.type = 9) ∧ (∃ f, fs[4]? = some f ∧ f.type = 25) := by
  refine ⟨_, Tryd.underlying27, ?_, rfl, ⟨_, rfl, rfl⟩, ⟨_, rfl, rfl⟩, ⟨_, rfl, rfl⟩, ⟨_, rfl, rfl⟩, ⟨_, rfl, rfl⟩⟩
  kernel_rfl

theorem open_vw {H : Type} {enc : TypeId × Value → H} {w : World} {base : Nat} {spare : Nat → Bool} {held : Bool} {fuel : Nat} {cs : List Value} {x : DataW H × List MemPlace} (h : DataW.trod enc Tryd.prog w base spare held fuel 27 cs = some x) :
    ∃ (y : Vw) (ad : Option Addr) (c : Nat) (l : List Ly), cs = vC y (.slice ad l.length c) ∧ y.s.size ≤ maxLen ∧ LysAt w (.slice ad l.length c) l := by
  obtain ⟨fs, hs, hone, hsz, ⟨f0, e0, t0⟩, ⟨f1, e1, t1⟩, ⟨f2, e2, t2⟩, ⟨f3, e3, t3⟩, ⟨f4, e4, t4⟩⟩ := vw_fields
  obtain ⟨ys, n', hn', hy, hlen, hyl, hf⟩ := DataW.trod_struct hs h
  have hC : Tryd.prog.cellsOf 27 = 5 := by kernel_rfl
  have hcl : cs.length = 5 := hlen.trans hC
  match cs, hcl with
  | [v0, v1, v2, v3, v4], _ =>
    obtain ⟨o0, k0⟩ := hone_of hone 0 f0 e0
    obtain ⟨o1, k1⟩ := hone_of hone 1 f1 e1
    obtain ⟨o2, k2⟩ := hone_of hone 2 f2 e2
    obtain ⟨o3, k3⟩ := hone_of hone 3 f3 e3
    obtain ⟨o4, k4⟩ := hone_of hone 4 f4 e4
    have g0 := hf 0 f0 e0
    have g1 := hf 1 f1 e1
    have g2 := hf 2 f2 e2
    have g3 := hf 3 f3 e3
    have g4 := hf 4 f4 e4
    rw [hsz] at hyl
    match ys, hyl with
    | [y0, y1, y2, y3, y4], _ =>
      rw [o0, k0, t0] at g0
      rw [o1, k1, t1] at g1
      rw [o2, k2, t2] at g2
      rw [o3, k3, t3] at g3
      rw [o4, k4, t4] at g4
      have g0' : DataW.trod enc Tryd.prog w base spare held n' 3 [v0] = some y0 := g0
      have g1' : DataW.trod enc Tryd.prog w base spare held n' 3 [v1] = some y1 := g1
      have g2' : DataW.trod enc Tryd.prog w base spare held n' 24 [v2] = some y2 := g2
      have g3' : DataW.trod enc Tryd.prog w base spare held n' 9 [v3] = some y3 := g3
      have g4' : DataW.trod enc Tryd.prog w base spare held n' 25 [v4] = some y4 := g4
      obtain ⟨m0, r0, _, w0⟩ := DataW.trod_int Tryd.underlying3 g0'
      obtain ⟨m1, r1, _, w1⟩ := DataW.trod_int Tryd.underlying3 g1'
      obtain ⟨m2, r2, _, w2⟩ := DataW.trod_int Tryd.underlying24 g2'
      obtain ⟨s3, r3, _, w3⟩ := DataW.trod_string Tryd.underlying9 g3'
      obtain ⟨l4, hl4⟩ := open_lys g4'
      injection r0 with r0
      injection r1 with r1
      injection r2 with r2
      injection r3 with r3
      subst r0 r1 r2 r3
      obtain ⟨ad, c, rfl, hrest⟩ := id hl4
      refine ⟨⟨m0, m1, m2, s3⟩, ad, c, l4, rfl, ?_, hl4⟩
      unfold maxLen at w3 ⊢; show s3.size ≤ _; omega

theorem cshrinks_card (t : List Tab.C) (a : Option Addr) (cp : Nat) (x : Vw) (va : Option Addr) (l : List Ly) (vc : Nat) (s u : ByteArray) (lab : Int) (m : Bool) (w : World) (hTb : Tb w) (hT : TabAt w (.slice a t.length cp) t)
    (hx : x.s.size ≤ maxLen) (hv : LysAt w (.slice va l.length vc) l) (hs : s.size ≤ maxLen) (hu : u.size ≤ maxLen) (b1 : -9223372036854775808 ≤ lab) (b2 : lab ≤ 9223372036854775807) :
    Calls Tryd.prog 5 #[.slice a t.length cp, vV x (.slice va l.length vc), .string s, .string u, .int .i64 lab, .bool m] w fun e w' => e = .returned (.bool true) ∧ Kept w w' :=
  cshrinks_c t a cp x va vc l s u lab m w hTb hT hv hx hs hu
end Go.Proofs.YtdceafncncgfbaaDoor
