/- From what a row lists to what the walks ask: the tables of words (the base types with their tags; which bytes are blanks). A slice of classes that came in, opened to its cells: classes, fields, methods, parameters. -/
import Derived.Test.YthooiofaicdhgaaGreatDoorKKey
import Derived.Lib.LaidTab
import Derived.Lib.LaidU8
import Derived.ChangeSame
import Derived.Test.YthooiofaicdhgaaGreatDoorKTbf
import Derived.Test.YthooiofaicdhgaaGreatDoorKLnr
import Derived.Deep.Slices
import Derived.Deep.Fields
import Derived.ProofKit
import Derived.OpenShut
import Derived.ShutString
import Derived.Carry
set_option linter.unusedSimpArgs false
set_option linter.unusedVariables false
set_option maxRecDepth 100000
namespace Go.Proofs.YthooiofaicdhgaaGreatDoor
open Go.ChangeShapes Go.WideShapes Go.ChangeAt Go.RowKit Go.Lib
theorem cell_two {x : List Value} {w : World} {fuel : Nat} {b : List UInt8} {n : Int} {q : List MemPlace}
  (h : DataW.trod (fun _ => ()) Tryz.prog w 0 (fun _ => true) false fuel 310 x = some (.agg [.lit (.string b), .lit (.int .i64 n)], q)) : x = [.string ⟨b.toArray⟩, .int .i64 n] := by
 obtain ⟨y0, y1, m, he, hl, h0, h1⟩ := trod_struct2 Tryz.underlying310 h
 rw [show Tryz.prog.cellsOf 310 = 2 by kernel_rfl] at hl
 obtain ⟨s, c0, rfl, _⟩ := DataW.trod_string Tryz.underlying9 h0
 obtain ⟨z, c1, rfl, _⟩ := DataW.trod_int Tryz.underlying3 h1
 have e1 : s.data.toList = b ∧ z = n := by
  have := congrArg Prod.fst he
  simp at this
  exact ⟨this.1.symm, this.2.symm⟩
 obtain ⟨rfl, rfl⟩ := e1
 match x, hl with
 | [a0, a1], _ =>
  have k1 : Tryz.prog.cellsOf 9 = 1 := by kernel_rfl
  have k2 : Tryz.prog.cellsOf 3 = 1 := by kernel_rfl
  rw [k1] at c0
  rw [k2] at c1
  simp at c0 c1
  rw [c0, c1]
def basesD : DataW Unit := .agg (Wrd.bs.zipIdx.map fun x => .agg [.lit (.string x.1.data.toList), .lit (.int .i64 (x.2 + 1))])
theorem bases_cells {cs : List Value} {w : World} {fuel : Nat} {q : List MemPlace}
  (h : DataW.trod (fun _ => ()) Tryz.prog w 0 (fun _ => true) false fuel 311 cs = some (basesD, q)) : cs = bcs.toList := by
 have hlen : cs.length = 10 := by
  cases fuel with
  | zero => simp [DataW.trod] at h
  | succ n =>
   unfold DataW.trod at h
   rw [Tryz.underlying311] at h
   simp only at h
   split at h
   ·rename_i hl
    rw [hl]
    kernel_rfl
   ·cases h
 have kc : Tryz.prog.cellsOf 310 = 2 := by kernel_rfl
 have E : ∀ (i : Nat) (b : List UInt8) (n : Int), i < 5 → (Wrd.bs.zipIdx.map fun x => (DataW.agg [.lit (.string x.1.data.toList), .lit (.int .i64 (x.2 + 1))] : DataW Unit))[i]? = some (.agg [.lit (.string b), .lit (.int .i64 n)]) → (cs.drop (i * 2)).take 2 = [.string ⟨b.toArray⟩, .int .i64 n] := by
  intro i b n hi hd
  obtain ⟨f', d, q', h1, h2⟩ := array_elem Tryz.underlying311 h i hi
  rw [hd] at h1
  obtain rfl := Option.some.inj h1
  rw [kc] at h2
  exact cell_two h2
 have e0 := E 0 _ _ (by omega) rfl
 have e1 := E 1 _ _ (by omega) rfl
 have e2 := E 2 _ _ (by omega) rfl
 have e3 := E 3 _ _ (by omega) rfl
 have e4 := E 4 _ _ (by omega) rfl
 clear E h
 match cs, hlen with
 | [a0, a1, a2, a3, a4, a5, a6, a7, a8, a9], _ =>
  simp at e0 e1 e2 e3 e4
  rw [e0.1, e0.2, e1.1, e1.2, e2.1, e2.2, e3.1, e3.2, e4.1, e4.2]
  rfl
theorem heap_of_var {w : World} {name : String} {g : Nat} {cs : Array Value} (hg : Tryz.prog.globalNamed name = some g) (h : w.var? Tryz.prog name = some cs) : ∃ t fr, w.heap[g]? = some (.cells cs t fr) := by
 unfold World.var? at h
 rw [hg] at h
 simp only [Option.bind_some] at h
 split at h
 ·rename_i c t fr e
  cases h
  exact ⟨t, fr, e⟩
 ·cases h
theorem tb_of_reads {w : World} (h1 : VarReads Tryz.prog w "strings.asciiSpace" (tabData .u8 spl)) (h0 : VarReads Tryz.prog w "chaperon/words.bases" basesD) : Tb w := by
 constructor
 ·obtain ⟨g, t, cs, fuel, p, hg, hty, hvar, hd⟩ := h0
  obtain rfl := Option.some.inj ((show Tryz.prog.globalNamed "chaperon/words.bases" = some 5 by kernel_rfl).symm.trans hg)
  obtain rfl := Option.some.inj ((show (Tryz.prog.globals[5]?).map (·.type) = some 311 by kernel_rfl).symm.trans hty)
  have e := bases_cells hd
  obtain rfl : cs = bcs := Array.toList_inj.1 e
  exact heap_of_var hg hvar
 ·obtain ⟨g, t, cs, fuel, p, hg, hty, hvar, hd⟩ := h1
  obtain rfl := Option.some.inj ((show Tryz.prog.globalNamed "strings.asciiSpace" = some 3 by kernel_rfl).symm.trans hg)
  obtain rfl := Option.some.inj ((show (Tryz.prog.globals[3]?).map (·.type) = some 298 by kernel_rfl).symm.trans hty)
  have e := cells_of_tab Tryz.underlying298 Tryz.underlying5 (by kernel_rfl) (by kernel_rfl) hd
  obtain rfl : cs = spcs := Array.toList_inj.1 (e.trans (by unfold spcs; simp))
  exact heap_of_var hg hvar
end Go.Proofs.YthooiofaicdhgaaGreatDoor
namespace Go.Proofs.YthooiofaicdhgaaGreatDoor
open Go.ChangeShapes Go.WideShapes Go.ChangeAt Go.RowKit Go.Deep
theorem Kept.same {W w' : World} (h : Kept W w') {p : MemPlace} (hp : p.block < W.heap.size) : W.sameAt w' p := by
 cases p with
 | cell b o => exact World.cell?_of_block (w := W) (h.block b hp)
 | map b => exact h.block b hp
theorem Kept.trod {H : Type} {enc : TypeId × Value → H} {P : Program} {t : TypeId} (hl : laidOutB P = true) (hr : P.readableRec t = true) (hrow : t < P.types.size) {W W' : World} {v : Value} {d : DataW H} {ps : List MemPlace}
  (h : DataW.Trod enc P W 0 (fun _ => true) true t v d ps) (hb : Kept W W') (hlt : ∀ x ∈ ps, x.block < W.heap.size) :
  DataW.Trod enc P W' 0 (fun b => decide (b < W.heap.size)) true t v d ps :=
 WideElems.Trod_stays hl hr hrow h (fun x hx => hb.same (hlt x hx)) (fun x hx => by simpa using hlt x hx)
theorem row_of_each {α : Type} {k : Nat} {R : World → Nat → Nat → α → Prop} {w : World} {ad : Addr} {n c : Nat} (hl : n ≤ c) (hm : c ≤ maxLen)
  (each : ∀ i, i < n → ∃ y : α, ∃ b o, ad = ⟨b, o, none⟩ ∧ R w b (o + i * k) y) : ∃ l : List α, l.length = n ∧ Row k R w (.slice (some ad) n c) l := by
 let g : Fin n → α := fun i => Classical.choose (each i.1 i.2)
 have gs : ∀ i : Fin n, ∃ b o, ad = ⟨b, o, none⟩ ∧ R w b (o + i.1 * k) (g i) := fun i => Classical.choose_spec (each i.1 i.2)
 have hlen : (List.ofFn g).length = n := List.length_ofFn
 refine ⟨List.ofFn g, hlen, some ad, c, by rw [hlen], by rw [hlen]; exact hl, hm, fun i y hy => ?_⟩
 obtain ⟨hin, hyy⟩ := List.getElem?_eq_some_iff.1 hy
 have hin' : i < n := by rw [hlen] at hin; exact hin
 have hyg : y = g ⟨i, hin'⟩ := by rw [← hyy]; simp
 rw [hyg]
 obtain ⟨b, o, e, hr⟩ := gs ⟨i, hin'⟩
 exact ⟨b, o, by rw [e], hr⟩
theorem Row.none {α : Type} {k : Nat} {R : World → Nat → Nat → α → Prop} {w : World} : Row k R w (.slice .none 0 0) [] :=
 ⟨.none, 0, rfl, Nat.le_refl _, Nat.zero_le _, fun i x h => by cases h⟩
section
variable {H : Type} {enc : TypeId × Value → H} {w : World} {base : Nat} {spare : Nat → Bool} {held : Bool}
theorem var_fields : ∃ fs : Array Field, Tryz.prog.underlying 50 = some (.struct fs) ∧ oneCellFields Tryz.prog fs = true ∧ fs.size = 2 ∧ (∃ f, fs[0]? = some f ∧ f.type = 9) ∧ (∃ f, fs[1]? = some f ∧ f.type = 9) := by
 refine ⟨_, Tryz.underlying50, ?_, rfl, ⟨_, rfl, rfl⟩, ⟨_, rfl, rfl⟩⟩
 kernel_rfl
theorem open_var {fuel : Nat} {ad : Addr} {x : DataW H × List MemPlace} {cs : List Value} (hc : w.cells? base ad 2 = some cs) (h : DataW.trod enc Tryz.prog w base spare held fuel 50 cs = some x) :
  ∃ y : Tab.V, w.cell? (ad.add 0) = some (.string y.name) ∧ w.cell? (ad.add 1) = some (.string y.typ) ∧ y.name.size ≤ maxLen ∧ y.typ.size ≤ maxLen := by
 obtain ⟨fs, hs, hone, hsz, ⟨f0, e0, t0⟩, ⟨f1, e1, t1⟩⟩ := var_fields
 obtain ⟨ys, n', hn', hy, hlen, hyl, hf⟩ := DataW.trod_struct hs h
 obtain ⟨_, hcl, hat⟩ := World.cells?_some hc
 have hcl3 : cs.length = 2 := hcl
 match cs, hcl3 with
 | [v0, v1], _ =>
  obtain ⟨o0, k0⟩ := hone_of hone 0 f0 e0
  obtain ⟨o1, k1⟩ := hone_of hone 1 f1 e1
  have g0 := hf 0 f0 e0
  have g1 := hf 1 f1 e1
  rw [hsz] at hyl
  match ys, hyl with
  | [y0, y1], _ =>
   rw [o0, k0, t0] at g0
   rw [o1, k1, t1] at g1
   have c0 := hat 0 (by decide)
   have c1 := hat 1 (by decide)
   have g0' : DataW.trod enc Tryz.prog w base spare held n' 9 [v0] = some y0 := g0
   have g1' : DataW.trod enc Tryz.prog w base spare held n' 9 [v1] = some y1 := g1
   obtain ⟨s0, r0, _, w0⟩ := DataW.trod_string Tryz.underlying9 g0'
   obtain ⟨s1, r1, _, w1⟩ := DataW.trod_string Tryz.underlying9 g1'
   injection r0 with r0
   injection r1 with r1
   subst r0 r1
   exact ⟨⟨s0, s1⟩, c0, c1, w0, w1⟩
theorem open_vars {fuel : Nat} {v : Value} {x : DataW H × List MemPlace} (h : DataW.trod enc Tryz.prog w base spare held fuel 43 [v] = some x) :
  ∃ l : List Tab.V, Row 2 VarAt w v l := by
 rcases open_slice Tryz.underlying43 h with ⟨hcs, _⟩ | ⟨ad, len, cap, m, k, D, Pl, hcs, hb, hl, hm, hmm, hx, hi⟩
 ·cases hcs
  exact ⟨[], Row.none⟩
 ·cases hcs
  have hC : Tryz.prog.cellsOf 50 = 2 := by kernel_rfl
  obtain ⟨l, hl', hr⟩ := row_of_each (k := 2) (R := VarAt) (w := w) (ad := ad) hl hm (fun i hin => by
   have hspot : ad.spot = none := by
    obtain ⟨cs0, hc0, ht0⟩ := hi 0 (by rw [hmm]; split <;> omega)
    rw [hC] at hc0
    obtain ⟨_, d0, _⟩ := open_var hc0 ht0
    simpa [Addr.add] using World.cell?_spot d0
   obtain ⟨cs', hc, ht'⟩ := hi i (by rw [hmm]; split <;> omega)
   rw [hC] at hc
   obtain ⟨y, c0, c1, z0, z1⟩ := open_var hc ht'
   obtain ⟨b, off, spot⟩ := ad
   have hs2 : spot = none := hspot
   subst hs2
   simp only [addr_plain, Nat.add_zero] at c0 c1
   exact ⟨y, b, off, rfl, c0, c1, z0, z1⟩)
  exact ⟨l, hr⟩
theorem sig_fields : ∃ fs : Array Field, Tryz.prog.underlying 53 = some (.struct fs) ∧ oneCellFields Tryz.prog fs = true ∧ fs.size = 3 ∧ (∃ f, fs[0]? = some f ∧ f.type = 9) ∧ (∃ f, fs[1]? = some f ∧ f.type = 43) ∧ (∃ f, fs[2]? = some f ∧ f.type = 9) := by
 refine ⟨_, Tryz.underlying53, ?_, rfl, ⟨_, rfl, rfl⟩, ⟨_, rfl, rfl⟩, ⟨_, rfl, rfl⟩⟩
 kernel_rfl
theorem open_sig {fuel : Nat} {ad : Addr} {x : DataW H × List MemPlace} {cs : List Value} (hc : w.cells? base ad 3 = some cs) (h : DataW.trod enc Tryz.prog w base spare held fuel 53 cs = some x) :
  ∃ y : Tab.M, w.cell? (ad.add 0) = some (.string y.name) ∧ (∃ v, w.cell? (ad.add 1) = some v ∧ Row 2 VarAt w v y.params) ∧ w.cell? (ad.add 2) = some (.string y.res) ∧ y.name.size ≤ maxLen ∧ y.res.size ≤ maxLen := by
 obtain ⟨fs, hs, hone, hsz, ⟨f0, e0, t0⟩, ⟨f1, e1, t1⟩, ⟨f2, e2, t2⟩⟩ := sig_fields
 obtain ⟨ys, n', hn', hy, hlen, hyl, hf⟩ := DataW.trod_struct hs h
 obtain ⟨_, hcl, hat⟩ := World.cells?_some hc
 have hcl3 : cs.length = 3 := hcl
 match cs, hcl3 with
 | [v0, v1, v2], _ =>
  obtain ⟨o0, k0⟩ := hone_of hone 0 f0 e0
  obtain ⟨o1, k1⟩ := hone_of hone 1 f1 e1
  obtain ⟨o2, k2⟩ := hone_of hone 2 f2 e2
  have g0 := hf 0 f0 e0
  have g1 := hf 1 f1 e1
  have g2 := hf 2 f2 e2
  rw [hsz] at hyl
  match ys, hyl with
  | [y0, y1, y2], _ =>
   rw [o0, k0, t0] at g0
   rw [o1, k1, t1] at g1
   rw [o2, k2, t2] at g2
   have c0 := hat 0 (by decide)
   have c1 := hat 1 (by decide)
   have c2 := hat 2 (by decide)
   have g0' : DataW.trod enc Tryz.prog w base spare held n' 9 [v0] = some y0 := g0
   have g1' : DataW.trod enc Tryz.prog w base spare held n' 43 [v1] = some y1 := g1
   have g2' : DataW.trod enc Tryz.prog w base spare held n' 9 [v2] = some y2 := g2
   obtain ⟨s0, r0, _, w0⟩ := DataW.trod_string Tryz.underlying9 g0'
   obtain ⟨l, hr⟩ := open_vars g1'
   obtain ⟨s2, r2, _, w2⟩ := DataW.trod_string Tryz.underlying9 g2'
   injection r0 with r0
   injection r2 with r2
   subst r0 r2
   exact ⟨⟨s0, l, s2⟩, c0, ⟨v1, c1, hr⟩, c2, w0, w2⟩
theorem open_sigs {fuel : Nat} {v : Value} {x : DataW H × List MemPlace} (h : DataW.trod enc Tryz.prog w base spare held fuel 44 [v] = some x) :
  ∃ l : List Tab.M, Row 3 SigAt w v l := by
 rcases open_slice Tryz.underlying44 h with ⟨hcs, _⟩ | ⟨ad, len, cap, m, k, D, Pl, hcs, hb, hl, hm, hmm, hx, hi⟩
 ·cases hcs
  exact ⟨[], Row.none⟩
 ·cases hcs
  have hC : Tryz.prog.cellsOf 53 = 3 := by kernel_rfl
  obtain ⟨l, hl', hr⟩ := row_of_each (k := 3) (R := SigAt) (w := w) (ad := ad) hl hm (fun i hin => by
   have hspot : ad.spot = none := by
    obtain ⟨cs0, hc0, ht0⟩ := hi 0 (by rw [hmm]; split <;> omega)
    rw [hC] at hc0
    obtain ⟨_, d0, _⟩ := open_sig hc0 ht0
    simpa [Addr.add] using World.cell?_spot d0
   obtain ⟨cs', hc, ht'⟩ := hi i (by rw [hmm]; split <;> omega)
   rw [hC] at hc
   obtain ⟨y, c0, ⟨u, c1, hr⟩, c2, z0, z1⟩ := open_sig hc ht'
   obtain ⟨b, off, spot⟩ := ad
   have hs2 : spot = none := hspot
   subst hs2
   simp only [addr_plain, Nat.add_zero] at c0 c1 c2
   exact ⟨y, b, off, rfl, c0, ⟨u, c1, hr⟩, c2, z0, z1⟩)
  exact ⟨l, hr⟩
theorem cls_fields : ∃ fs : Array Field, Tryz.prog.underlying 46 = some (.struct fs) ∧ oneCellFields Tryz.prog fs = true ∧ fs.size = 4 ∧ (∃ f, fs[0]? = some f ∧ f.type = 9) ∧ (∃ f, fs[1]? = some f ∧ f.type = 9) ∧ (∃ f, fs[2]? = some f ∧ f.type = 43) ∧ (∃ f, fs[3]? = some f ∧ f.type = 44) := by
 refine ⟨_, Tryz.underlying46, ?_, rfl, ⟨_, rfl, rfl⟩, ⟨_, rfl, rfl⟩, ⟨_, rfl, rfl⟩, ⟨_, rfl, rfl⟩⟩
 kernel_rfl
theorem open_cls {fuel : Nat} {ad : Addr} {x : DataW H × List MemPlace} {cs : List Value} (hc : w.cells? base ad 4 = some cs) (h : DataW.trod enc Tryz.prog w base spare held fuel 46 cs = some x) :
  ∃ y : Tab.C, w.cell? (ad.add 0) = some (.string y.name) ∧ w.cell? (ad.add 1) = some (.string y.super) ∧ (∃ v, w.cell? (ad.add 2) = some v ∧ Row 2 VarAt w v y.fields) ∧ (∃ v, w.cell? (ad.add 3) = some v ∧ Row 3 SigAt w v y.methods) ∧ y.name.size ≤ maxLen ∧ y.super.size ≤ maxLen := by
 obtain ⟨fs, hs, hone, hsz, ⟨f0, e0, t0⟩, ⟨f1, e1, t1⟩, ⟨f2, e2, t2⟩, ⟨f3, e3, t3⟩⟩ := cls_fields
 obtain ⟨ys, n', hn', hy, hlen, hyl, hf⟩ := DataW.trod_struct hs h
 obtain ⟨_, hcl, hat⟩ := World.cells?_some hc
 have hcl3 : cs.length = 4 := hcl
 match cs, hcl3 with
 | [v0, v1, v2, v3], _ =>
  obtain ⟨o0, k0⟩ := hone_of hone 0 f0 e0
  obtain ⟨o1, k1⟩ := hone_of hone 1 f1 e1
  obtain ⟨o2, k2⟩ := hone_of hone 2 f2 e2
  obtain ⟨o3, k3⟩ := hone_of hone 3 f3 e3
  have g0 := hf 0 f0 e0
  have g1 := hf 1 f1 e1
  have g2 := hf 2 f2 e2
  have g3 := hf 3 f3 e3
  rw [hsz] at hyl
  match ys, hyl with
  | [y0, y1, y2, y3], _ =>
   rw [o0, k0, t0] at g0
   rw [o1, k1, t1] at g1
   rw [o2, k2, t2] at g2
   rw [o3, k3, t3] at g3
   have c0 := hat 0 (by decide)
   have c1 := hat 1 (by decide)
   have c2 := hat 2 (by decide)
   have c3 := hat 3 (by decide)
   have g0' : DataW.trod enc Tryz.prog w base spare held n' 9 [v0] = some y0 := g0
   have g1' : DataW.trod enc Tryz.prog w base spare held n' 9 [v1] = some y1 := g1
   have g2' : DataW.trod enc Tryz.prog w base spare held n' 43 [v2] = some y2 := g2
   have g3' : DataW.trod enc Tryz.prog w base spare held n' 44 [v3] = some y3 := g3
   obtain ⟨s0, r0, _, w0⟩ := DataW.trod_string Tryz.underlying9 g0'
   obtain ⟨s1, r1, _, w1⟩ := DataW.trod_string Tryz.underlying9 g1'
   obtain ⟨l, hr⟩ := open_vars g2'
   obtain ⟨l', hr'⟩ := open_sigs g3'
   injection r0 with r0
   injection r1 with r1
   subst r0 r1
   exact ⟨⟨s0, s1, l, l'⟩, c0, c1, ⟨v2, c2, hr⟩, ⟨v3, c3, hr'⟩, w0, w1⟩
theorem open_tab {fuel : Nat} {v : Value} {x : DataW H × List MemPlace} (h : DataW.trod enc Tryz.prog w base spare held fuel 22 [v] = some x) :
  ∃ l : List Tab.C, TabAt w v l := by
 rcases open_slice Tryz.underlying22 h with ⟨hcs, _⟩ | ⟨ad, len, cap, m, k, D, Pl, hcs, hb, hl, hm, hmm, hx, hi⟩
 ·cases hcs
  exact ⟨[], Row.none⟩
 ·cases hcs
  have hC : Tryz.prog.cellsOf 46 = 4 := by kernel_rfl
  obtain ⟨l, hl', hr⟩ := row_of_each (k := 4) (R := ClsAt) (w := w) (ad := ad) hl hm (fun i hin => by
   have hspot : ad.spot = none := by
    obtain ⟨cs0, hc0, ht0⟩ := hi 0 (by rw [hmm]; split <;> omega)
    rw [hC] at hc0
    obtain ⟨_, d0, _⟩ := open_cls hc0 ht0
    simpa [Addr.add] using World.cell?_spot d0
   obtain ⟨cs', hc, ht'⟩ := hi i (by rw [hmm]; split <;> omega)
   rw [hC] at hc
   obtain ⟨y, c0, c1, ⟨u, c2, hr⟩, ⟨u', c3, hr'⟩, z0, z1⟩ := open_cls hc ht'
   obtain ⟨b, off, spot⟩ := ad
   have hs2 : spot = none := hspot
   subst hs2
   simp only [addr_plain, Nat.add_zero] at c0 c1 c2 c3
   exact ⟨y, b, off, rfl, c0, c1, ⟨u, c2, hr⟩, ⟨u', c3, hr'⟩, z0, z1⟩)
  exact ⟨l, hr⟩
end
end Go.Proofs.YthooiofaicdhgaaGreatDoor
