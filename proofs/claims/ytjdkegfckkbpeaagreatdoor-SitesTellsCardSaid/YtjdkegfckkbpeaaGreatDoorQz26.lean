/- The chapter's table of precise, made by the law's own helpers, and its examples. -/
import Derived.Test.YtjdkegfckkbpeaaGreatDoorQPso
import Derived.Test.YtjdkegfckkbpeaaGreatDoorQz2
import Derived.Lib.LaidTab
import Derived.Lib.LaidU8
import Derived.ChangeSame
import Derived.Test.YtjdkegfckkbpeaaGreatDoorQz4
import Derived.Deep.Slices
import Derived.Deep.Fields
import Derived.ProofKit
import Derived.OpenShut
import Derived.ShutString
import Derived.Carry
set_option linter.unusedSimpArgs false
set_option linter.unusedVariables false
set_option maxRecDepth 100000
namespace Go.Proofs.YtjdkegfckkbpeaaGreatDoor
open Go.ChangeShapes Go.WideShapes Go.ChangeAt Go.RowKit
abbrev t8 (l : List UInt8) : ByteArray := ⟨l.toArray⟩
theorem sz8 (l : List UInt8) (h : l.length ≤ 100) : (t8 l).size ≤ maxLen := by
 have : (t8 l).size = l.length := by simp [ByteArray.size]
 unfold maxLen
 omega
theorem row_1 {α : Type} {k : Nat} {R : World → Nat → Nat → α → Prop} {w : World} {g : Nat} {x : α} (h : R w g 0 x) : Row k R w (.slice (some ⟨g, 0, none⟩) 1 1) [x] :=
 ⟨_, 1, rfl, Nat.le_refl _, by decide, fun i a ha => by
  match i, ha with
  | 0, ha => cases ha; exact ⟨g, 0, rfl, by simpa using h⟩⟩
theorem row_4 {α : Type} {k : Nat} {R : World → Nat → Nat → α → Prop} {w : World} {g : Nat} {x y z u : α} (h : R w g 0 x) (h2 : R w g k y) (h3 : R w g (2 * k) z) (h4 : R w g (3 * k) u) : Row k R w (.slice (some ⟨g, 0, none⟩) 4 4) [x, y, z, u] :=
 ⟨_, 4, rfl, Nat.le_refl _, by decide, fun i a ha => by
  match i, ha with
  | 0, ha => cases ha; exact ⟨g, 0, rfl, by simpa using h⟩
  | 1, ha => cases ha; exact ⟨g, 0, rfl, by simpa using h2⟩
  | 2, ha => cases ha; exact ⟨g, 0, rfl, by simpa using h3⟩
  | 3, ha => cases ha; exact ⟨g, 0, rfl, by simpa using h4⟩⟩
namespace Tab
def cloB (t : List C) (L : List P2) : Bool := L.all fun p => (both t p && hasB (mbs t p.1) (mbs t p.2)) && (mbs t p.2).all fun m => (mbs t p.1).all fun x => !alike x m || (zipT x.types m.types).all (inP L)
theorem cloB_pre {t : List C} {L : List P2} (h : cloB t L = true) {p : P2} (hp : inP L p = true) : Pre t p := by
 refine ⟨fun p => p ∈ L, fun p hp => ?_, inP_iff.1 hp⟩
 unfold cloB at h
 have h1 := List.all_eq_true.1 h p hp
 rw [Bool.and_eq_true, Bool.and_eq_true] at h1
 obtain ⟨⟨h1, h2⟩, h3⟩ := h1
 refine ⟨h1, h2, fun m hm x hx ha q hq => ?_⟩
 have h4 := List.all_eq_true.1 (List.all_eq_true.1 h3 m hm) x hx
 rw [ha] at h4
 exact inP_iff.1 (List.all_eq_true.1 (by simpa using h4) q hq)
def nec (t : List C) (p : P2) : Bool := (both t p && hasB (mbs t p.1) (mbs t p.2)) && (mbs t p.2).all fun m => (mbs t p.1).all fun x => !alike x m || (zipT x.types m.types).all (both t)
theorem nec_pre {t : List C} {p : P2} (h : Pre t p) : nec t p = true := by
 obtain ⟨h1, h2, h3⟩ := pre_closed t p h
 unfold nec
 rw [h1, h2, List.all_eq_true.2]
 ·rfl
 ·intro m hm
  refine List.all_eq_true.2 fun x hx => ?_
  cases ha : alike x m with
  | false => rfl
  | true => exact List.all_eq_true.2 fun q hq => pre_both (h3 m hm x hx ha q hq)
end Tab
open Tab
end Go.Proofs.YtjdkegfckkbpeaaGreatDoor
namespace Go.Proofs.YtjdkegfckkbpeaaGreatDoor
open Go.ChangeShapes Go.WideShapes Go.ChangeAt Go.RowKit Go.Lib
theorem cell_two {x : List Value} {w : World} {fuel : Nat} {b : List UInt8} {n : Int} {q : List MemPlace}
  (h : DataW.trod (fun _ => ()) Tryz.prog w 0 (fun _ => true) false fuel 290 x = some (.agg [.lit (.string b), .lit (.int .i64 n)], q)) : x = [.string ⟨b.toArray⟩, .int .i64 n] := by
 obtain ⟨y0, y1, m, he, hl, h0, h1⟩ := trod_struct2 Tryz.underlying290 h
 rw [show Tryz.prog.cellsOf 290 = 2 by kernel_rfl] at hl
 obtain ⟨s, c0, rfl, _⟩ := DataW.trod_string Tryz.underlying9 h0
 obtain ⟨z, c1, rfl, _⟩ := DataW.trod_int Tryz.underlying3 h1
 have e1 : s.data.toList = b ∧ z = n := by
  have := congrArg Prod.fst he
  simp at this
  exact ⟨this.1.symm, this.2.symm⟩
 obtain ⟨rfl, rfl⟩ := e1
 match x, hl with
 | [a0, a1], _ =>
  have k1 : Tryz.prog.cellsOf 9 = 1 := by kernel_rfl
  have k2 : Tryz.prog.cellsOf 3 = 1 := by kernel_rfl
  rw [k1] at c0
  rw [k2] at c1
  simp at c0 c1
  rw [c0, c1]
def basesD : DataW Unit := .agg (Wrd.bs.zipIdx.map fun x => .agg [.lit (.string x.1.data.toList), .lit (.int .i64 (x.2 + 1))])
theorem bases_cells {cs : List Value} {w : World} {fuel : Nat} {q : List MemPlace}
  (h : DataW.trod (fun _ => ()) Tryz.prog w 0 (fun _ => true) false fuel 291 cs = some (basesD, q)) : cs = bcs.toList := by
 have hlen : cs.length = 10 := by
  cases fuel with
  | zero => simp [DataW.trod] at h
  | succ n =>
   unfold DataW.trod at h
   rw [Tryz.underlying291] at h
   simp only at h
   split at h
   ·rename_i hl
    rw [hl]
    kernel_rfl
   ·cases h
 have kc : Tryz.prog.cellsOf 290 = 2 := by kernel_rfl
 have E : ∀ (i : Nat) (b : List UInt8) (n : Int), i < 5 → (Wrd.bs.zipIdx.map fun x => (DataW.agg [.lit (.string x.1.data.toList), .lit (.int .i64 (x.2 + 1))] : DataW Unit))[i]? = some (.agg [.lit (.string b), .lit (.int .i64 n)]) → (cs.drop (i * 2)).take 2 = [.string ⟨b.toArray⟩, .int .i64 n] := by
  intro i b n hi hd
  obtain ⟨f', d, q', h1, h2⟩ := array_elem Tryz.underlying291 h i hi
  rw [hd] at h1
  obtain rfl := Option.some.inj h1
  rw [kc] at h2
  exact cell_two h2
 have e0 := E 0 _ _ (by omega) rfl
 have e1 := E 1 _ _ (by omega) rfl
 have e2 := E 2 _ _ (by omega) rfl
 have e3 := E 3 _ _ (by omega) rfl
 have e4 := E 4 _ _ (by omega) rfl
 clear E h
 match cs, hlen with
 | [a0, a1, a2, a3, a4, a5, a6, a7, a8, a9], _ =>
  simp at e0 e1 e2 e3 e4
  rw [e0.1, e0.2, e1.1, e1.2, e2.1, e2.2, e3.1, e3.2, e4.1, e4.2]
  rfl
theorem heap_of_var {w : World} {name : String} {g : Nat} {cs : Array Value} (hg : Tryz.prog.globalNamed name = some g) (h : w.var? Tryz.prog name = some cs) : ∃ t fr, w.heap[g]? = some (.cells cs t fr) := by
 unfold World.var? at h
 rw [hg] at h
 simp only [Option.bind_some] at h
 split at h
 ·rename_i c t fr e
  cases h
  exact ⟨t, fr, e⟩
 ·cases h
theorem tb_of_reads {w : World} (h1 : VarReads Tryz.prog w "strings.asciiSpace" (tabData .u8 spl)) (h0 : VarReads Tryz.prog w "chaperon/words.bases" basesD) : Tb w := by
 constructor
 ·obtain ⟨g, t, cs, fuel, p, hg, hty, hvar, hd⟩ := h0
  obtain rfl := Option.some.inj ((show Tryz.prog.globalNamed "chaperon/words.bases" = some 7 by kernel_rfl).symm.trans hg)
  obtain rfl := Option.some.inj ((show (Tryz.prog.globals[7]?).map (·.type) = some 291 by kernel_rfl).symm.trans hty)
  have e := bases_cells hd
  obtain rfl : cs = bcs := Array.toList_inj.1 e
  exact heap_of_var hg hvar
 ·obtain ⟨g, t, cs, fuel, p, hg, hty, hvar, hd⟩ := h1
  obtain rfl := Option.some.inj ((show Tryz.prog.globalNamed "strings.asciiSpace" = some 5 by kernel_rfl).symm.trans hg)
  obtain rfl := Option.some.inj ((show (Tryz.prog.globals[5]?).map (·.type) = some 280 by kernel_rfl).symm.trans hty)
  have e := cells_of_tab Tryz.underlying280 Tryz.underlying5 (by kernel_rfl) (by kernel_rfl) hd
  obtain rfl : cs = spcs := Array.toList_inj.1 (e.trans (by unfold spcs; simp))
  exact heap_of_var hg hvar
end Go.Proofs.YtjdkegfckkbpeaaGreatDoor
namespace Go.Proofs.YtjdkegfckkbpeaaGreatDoor
open Go.ChangeShapes Go.WideShapes Go.ChangeAt Go.RowKit Go.Deep
theorem Kept.same {W w' : World} (h : Kept W w') {p : MemPlace} (hp : p.block < W.heap.size) : W.sameAt w' p := by
 cases p with
 | cell b o => exact World.cell?_of_block (w := W) (h.block b hp)
 | map b => exact h.block b hp
theorem Kept.trod {H : Type} {enc : TypeId × Value → H} {P : Program} {t : TypeId} (hl : laidOutB P = true) (hr : P.readableRec t = true) (hrow : t < P.types.size) {W W' : World} {v : Value} {d : DataW H} {ps : List MemPlace}
  (h : DataW.Trod enc P W 0 (fun _ => true) true t v d ps) (hb : Kept W W') (hlt : ∀ x ∈ ps, x.block < W.heap.size) :
  DataW.Trod enc P W' 0 (fun b => decide (b < W.heap.size)) true t v d ps :=
 WideElems.Trod_stays hl hr hrow h (fun x hx => hb.same (hlt x hx)) (fun x hx => by simpa using hlt x hx)
theorem row_of_each {α : Type} {k : Nat} {R : World → Nat → Nat → α → Prop} {w : World} {ad : Addr} {n c : Nat} (hl : n ≤ c) (hm : c ≤ maxLen)
  (each : ∀ i, i < n → ∃ y : α, ∃ b o, ad = ⟨b, o, none⟩ ∧ R w b (o + i * k) y) : ∃ l : List α, l.length = n ∧ Row k R w (.slice (some ad) n c) l := by
 let g : Fin n → α := fun i => Classical.choose (each i.1 i.2)
 have gs : ∀ i : Fin n, ∃ b o, ad = ⟨b, o, none⟩ ∧ R w b (o + i.1 * k) (g i) := fun i => Classical.choose_spec (each i.1 i.2)
 have hlen : (List.ofFn g).length = n := List.length_ofFn
 refine ⟨List.ofFn g, hlen, some ad, c, by rw [hlen], by rw [hlen]; exact hl, hm, fun i y hy => ?_⟩
 obtain ⟨hin, hyy⟩ := List.getElem?_eq_some_iff.1 hy
 have hin' : i < n := by rw [hlen] at hin; exact hin
 have hyg : y = g ⟨i, hin'⟩ := by rw [← hyy]; simp
 rw [hyg]
 obtain ⟨b, o, e, hr⟩ := gs ⟨i, hin'⟩
 exact ⟨b, o, by rw [e], hr⟩
theorem Row.none {α : Type} {k : Nat} {R : World → Nat → Nat → α → Prop} {w : World} : Row k R w (.slice .none 0 0) [] :=
 ⟨.none, 0, rfl, Nat.le_refl _, Nat.zero_le _, fun i x h => by cases h⟩
section
variable {H : Type} {enc : TypeId × Value → H} {w : World} {base : Nat} {spare : Nat → Bool} {held : Bool}
theorem var_fields : ∃ fs : Array Field, Tryz.prog.underlying 72 = some (.struct fs) ∧ oneCellFields Tryz.prog fs = true ∧ fs.size = 2 ∧ (∃ f, fs[0]? = some f ∧ f.type = 9) ∧ (∃ f, fs[1]? = some f ∧ f.type = 9) := by
 refine ⟨_, Tryz.underlying72, ?_, rfl, ⟨_, rfl, rfl⟩, ⟨_, rfl, rfl⟩⟩
 kernel_rfl
theorem open_var {fuel : Nat} {ad : Addr} {x : DataW H × List MemPlace} {cs : List Value} (hc : w.cells? base ad 2 = some cs) (h : DataW.trod enc Tryz.prog w base spare held fuel 72 cs = some x) :
  ∃ y : Tab.V, w.cell? (ad.add 0) = some (.string y.name) ∧ w.cell? (ad.add 1) = some (.string y.typ) ∧ y.name.size ≤ maxLen ∧ y.typ.size ≤ maxLen := by
 obtain ⟨fs, hs, hone, hsz, ⟨f0, e0, t0⟩, ⟨f1, e1, t1⟩⟩ := var_fields
 obtain ⟨ys, n', hn', hy, hlen, hyl, hf⟩ := DataW.trod_struct hs h
 obtain ⟨_, hcl, hat⟩ := World.cells?_some hc
 have hcl3 : cs.length = 2 := hcl
 match cs, hcl3 with
 | [v0, v1], _ =>
  obtain ⟨o0, k0⟩ := hone_of hone 0 f0 e0
  obtain ⟨o1, k1⟩ := hone_of hone 1 f1 e1
  have g0 := hf 0 f0 e0
  have g1 := hf 1 f1 e1
  rw [hsz] at hyl
  match ys, hyl with
  | [y0, y1], _ =>
   rw [o0, k0, t0] at g0
   rw [o1, k1, t1] at g1
   have c0 := hat 0 (by decide)
   have c1 := hat 1 (by decide)
   have g0' : DataW.trod enc Tryz.prog w base spare held n' 9 [v0] = some y0 := g0
   have g1' : DataW.trod enc Tryz.prog w base spare held n' 9 [v1] = some y1 := g1
   obtain ⟨s0, r0, _, w0⟩ := DataW.trod_string Tryz.underlying9 g0'
   obtain ⟨s1, r1, _, w1⟩ := DataW.trod_string Tryz.underlying9 g1'
   injection r0 with r0
   injection r1 with r1
   subst r0 r1
   exact ⟨⟨s0, s1⟩, c0, c1, w0, w1⟩
theorem open_vars {fuel : Nat} {v : Value} {x : DataW H × List MemPlace} (h : DataW.trod enc Tryz.prog w base spare held fuel 41 [v] = some x) :
  ∃ l : List Tab.V, Row 2 VarAt w v l := by
 rcases open_slice Tryz.underlying41 h with ⟨hcs, _⟩ | ⟨ad, len, cap, m, k, D, Pl, hcs, hb, hl, hm, hmm, hx, hi⟩
 ·cases hcs
  exact ⟨[], Row.none⟩
 ·cases hcs
  have hC : Tryz.prog.cellsOf 72 = 2 := by kernel_rfl
  obtain ⟨l, hl', hr⟩ := row_of_each (k := 2) (R := VarAt) (w := w) (ad := ad) hl hm (fun i hin => by
   have hspot : ad.spot = none := by
    obtain ⟨cs0, hc0, ht0⟩ := hi 0 (by rw [hmm]; split <;> omega)
    rw [hC] at hc0
    obtain ⟨_, d0, _⟩ := open_var hc0 ht0
    simpa [Addr.add] using World.cell?_spot d0
   obtain ⟨cs', hc, ht'⟩ := hi i (by rw [hmm]; split <;> omega)
   rw [hC] at hc
   obtain ⟨y, c0, c1, z0, z1⟩ := open_var hc ht'
   obtain ⟨b, off, spot⟩ := ad
   have hs2 : spot = none := hspot
   subst hs2
   simp only [addr_plain, Nat.add_zero] at c0 c1
   exact ⟨y, b, off, rfl, c0, c1, z0, z1⟩)
  exact ⟨l, hr⟩
theorem sig_fields : ∃ fs : Array Field, Tryz.prog.underlying 47 = some (.struct fs) ∧ oneCellFields Tryz.prog fs = true ∧ fs.size = 3 ∧ (∃ f, fs[0]? = some f ∧ f.type = 9) ∧ (∃ f, fs[1]? = some f ∧ f.type = 41) ∧ (∃ f, fs[2]? = some f ∧ f.type = 9) := by
 refine ⟨_, Tryz.underlying47, ?_, rfl, ⟨_, rfl, rfl⟩, ⟨_, rfl, rfl⟩, ⟨_, rfl, rfl⟩⟩
 kernel_rfl
theorem open_sig {fuel : Nat} {ad : Addr} {x : DataW H × List MemPlace} {cs : List Value} (hc : w.cells? base ad 3 = some cs) (h : DataW.trod enc Tryz.prog w base spare held fuel 47 cs = some x) :
  ∃ y : Tab.M, w.cell? (ad.add 0) = some (.string y.name) ∧ (∃ v, w.cell? (ad.add 1) = some v ∧ Row 2 VarAt w v y.params) ∧ w.cell? (ad.add 2) = some (.string y.res) ∧ y.name.size ≤ maxLen ∧ y.res.size ≤ maxLen := by
 obtain ⟨fs, hs, hone, hsz, ⟨f0, e0, t0⟩, ⟨f1, e1, t1⟩, ⟨f2, e2, t2⟩⟩ := sig_fields
 obtain ⟨ys, n', hn', hy, hlen, hyl, hf⟩ := DataW.trod_struct hs h
 obtain ⟨_, hcl, hat⟩ := World.cells?_some hc
 have hcl3 : cs.length = 3 := hcl
 match cs, hcl3 with
 | [v0, v1, v2], _ =>
  obtain ⟨o0, k0⟩ := hone_of hone 0 f0 e0
  obtain ⟨o1, k1⟩ := hone_of hone 1 f1 e1
  obtain ⟨o2, k2⟩ := hone_of hone 2 f2 e2
  have g0 := hf 0 f0 e0
  have g1 := hf 1 f1 e1
  have g2 := hf 2 f2 e2
  rw [hsz] at hyl
  match ys, hyl with
  | [y0, y1, y2], _ =>
   rw [o0, k0, t0] at g0
   rw [o1, k1, t1] at g1
   rw [o2, k2, t2] at g2
   have c0 := hat 0 (by decide)
   have c1 := hat 1 (by decide)
   have c2 := hat 2 (by decide)
   have g0' : DataW.trod enc Tryz.prog w base spare held n' 9 [v0] = some y0 := g0
   have g1' : DataW.trod enc Tryz.prog w base spare held n' 41 [v1] = some y1 := g1
   have g2' : DataW.trod enc Tryz.prog w base spare held n' 9 [v2] = some y2 := g2
   obtain ⟨s0, r0, _, w0⟩ := DataW.trod_string Tryz.underlying9 g0'
   obtain ⟨l, hr⟩ := open_vars g1'
   obtain ⟨s2, r2, _, w2⟩ := DataW.trod_string Tryz.underlying9 g2'
   injection r0 with r0
   injection r2 with r2
   subst r0 r2
   exact ⟨⟨s0, l, s2⟩, c0, ⟨v1, c1, hr⟩, c2, w0, w2⟩
theorem open_sigs {fuel : Nat} {v : Value} {x : DataW H × List MemPlace} (h : DataW.trod enc Tryz.prog w base spare held fuel 42 [v] = some x) :
  ∃ l : List Tab.M, Row 3 SigAt w v l := by
 rcases open_slice Tryz.underlying42 h with ⟨hcs, _⟩ | ⟨ad, len, cap, m, k, D, Pl, hcs, hb, hl, hm, hmm, hx, hi⟩
 ·cases hcs
  exact ⟨[], Row.none⟩
 ·cases hcs
  have hC : Tryz.prog.cellsOf 47 = 3 := by kernel_rfl
  obtain ⟨l, hl', hr⟩ := row_of_each (k := 3) (R := SigAt) (w := w) (ad := ad) hl hm (fun i hin => by
   have hspot : ad.spot = none := by
    obtain ⟨cs0, hc0, ht0⟩ := hi 0 (by rw [hmm]; split <;> omega)
    rw [hC] at hc0
    obtain ⟨_, d0, _⟩ := open_sig hc0 ht0
    simpa [Addr.add] using World.cell?_spot d0
   obtain ⟨cs', hc, ht'⟩ := hi i (by rw [hmm]; split <;> omega)
   rw [hC] at hc
   obtain ⟨y, c0, ⟨u, c1, hr⟩, c2, z0, z1⟩ := open_sig hc ht'
   obtain ⟨b, off, spot⟩ := ad
   have hs2 : spot = none := hspot
   subst hs2
   simp only [addr_plain, Nat.add_zero] at c0 c1 c2
   exact ⟨y, b, off, rfl, c0, ⟨u, c1, hr⟩, c2, z0, z1⟩)
  exact ⟨l, hr⟩
theorem cls_fields : ∃ fs : Array Field, Tryz.prog.underlying 44 = some (.struct fs) ∧ oneCellFields Tryz.prog fs = true ∧ fs.size = 4 ∧ (∃ f, fs[0]? = some f ∧ f.type = 9) ∧ (∃ f, fs[1]? = some f ∧ f.type = 9) ∧ (∃ f, fs[2]? = some f ∧ f.type = 41) ∧ (∃ f, fs[3]? = some f ∧ f.type = 42) := by
 refine ⟨_, Tryz.underlying44, ?_, rfl, ⟨_, rfl, rfl⟩, ⟨_, rfl, rfl⟩, ⟨_, rfl, rfl⟩, ⟨_, rfl, rfl⟩⟩
 kernel_rfl
theorem open_cls {fuel : Nat} {ad : Addr} {x : DataW H × List MemPlace} {cs : List Value} (hc : w.cells? base ad 4 = some cs) (h : DataW.trod enc Tryz.prog w base spare held fuel 44 cs = some x) :
  ∃ y : Tab.C, w.cell? (ad.add 0) = some (.string y.name) ∧ w.cell? (ad.add 1) = some (.string y.super) ∧ (∃ v, w.cell? (ad.add 2) = some v ∧ Row 2 VarAt w v y.fields) ∧ (∃ v, w.cell? (ad.add 3) = some v ∧ Row 3 SigAt w v y.methods) ∧ y.name.size ≤ maxLen ∧ y.super.size ≤ maxLen := by
 obtain ⟨fs, hs, hone, hsz, ⟨f0, e0, t0⟩, ⟨f1, e1, t1⟩, ⟨f2, e2, t2⟩, ⟨f3, e3, t3⟩⟩ := cls_fields
 obtain ⟨ys, n', hn', hy, hlen, hyl, hf⟩ := DataW.trod_struct hs h
 obtain ⟨_, hcl, hat⟩ := World.cells?_some hc
 have hcl3 : cs.length = 4 := hcl
 match cs, hcl3 with
 | [v0, v1, v2, v3], _ =>
  obtain ⟨o0, k0⟩ := hone_of hone 0 f0 e0
  obtain ⟨o1, k1⟩ := hone_of hone 1 f1 e1
  obtain ⟨o2, k2⟩ := hone_of hone 2 f2 e2
  obtain ⟨o3, k3⟩ := hone_of hone 3 f3 e3
  have g0 := hf 0 f0 e0
  have g1 := hf 1 f1 e1
  have g2 := hf 2 f2 e2
  have g3 := hf 3 f3 e3
  rw [hsz] at hyl
  match ys, hyl with
  | [y0, y1, y2, y3], _ =>
   rw [o0, k0, t0] at g0
   rw [o1, k1, t1] at g1
   rw [o2, k2, t2] at g2
   rw [o3, k3, t3] at g3
   have c0 := hat 0 (by decide)
   have c1 := hat 1 (by decide)
   have c2 := hat 2 (by decide)
   have c3 := hat 3 (by decide)
   have g0' : DataW.trod enc Tryz.prog w base spare held n' 9 [v0] = some y0 := g0
   have g1' : DataW.trod enc Tryz.prog w base spare held n' 9 [v1] = some y1 := g1
   have g2' : DataW.trod enc Tryz.prog w base spare held n' 41 [v2] = some y2 := g2
   have g3' : DataW.trod enc Tryz.prog w base spare held n' 42 [v3] = some y3 := g3
   obtain ⟨s0, r0, _, w0⟩ := DataW.trod_string Tryz.underlying9 g0'
   obtain ⟨s1, r1, _, w1⟩ := DataW.trod_string Tryz.underlying9 g1'
   obtain ⟨l, hr⟩ := open_vars g2'
   obtain ⟨l', hr'⟩ := open_sigs g3'
   injection r0 with r0
   injection r1 with r1
   subst r0 r1
   exact ⟨⟨s0, s1, l, l'⟩, c0, c1, ⟨v2, c2, hr⟩, ⟨v3, c3, hr'⟩, w0, w1⟩
theorem open_tab {fuel : Nat} {v : Value} {x : DataW H × List MemPlace} (h : DataW.trod enc Tryz.prog w base spare held fuel 22 [v] = some x) :
  ∃ l : List Tab.C, TabAt w v l := by
 rcases open_slice Tryz.underlying22 h with ⟨hcs, _⟩ | ⟨ad, len, cap, m, k, D, Pl, hcs, hb, hl, hm, hmm, hx, hi⟩
 ·cases hcs
  exact ⟨[], Row.none⟩
 ·cases hcs
  have hC : Tryz.prog.cellsOf 44 = 4 := by kernel_rfl
  obtain ⟨l, hl', hr⟩ := row_of_each (k := 4) (R := ClsAt) (w := w) (ad := ad) hl hm (fun i hin => by
   have hspot : ad.spot = none := by
    obtain ⟨cs0, hc0, ht0⟩ := hi 0 (by rw [hmm]; split <;> omega)
    rw [hC] at hc0
    obtain ⟨_, d0, _⟩ := open_cls hc0 ht0
    simpa [Addr.add] using World.cell?_spot d0
   obtain ⟨cs', hc, ht'⟩ := hi i (by rw [hmm]; split <;> omega)
   rw [hC] at hc
   obtain ⟨y, c0, c1, ⟨u, c2, hr⟩, ⟨u', c3, hr'⟩, z0, z1⟩ := open_cls hc ht'
   obtain ⟨b, off, spot⟩ := ad
   have hs2 : spot = none := hspot
   subst hs2
   simp only [addr_plain, Nat.add_zero] at c0 c1 c2 c3
   exact ⟨y, b, off, rfl, c0, c1, ⟨u, c2, hr⟩, ⟨u', c3, hr'⟩, z0, z1⟩)
  exact ⟨l, hr⟩
end
end Go.Proofs.YtjdkegfckkbpeaaGreatDoor
namespace Go.Proofs.YtjdkegfckkbpeaaGreatDoor
open Go.ChangeShapes Go.WideShapes Go.ChangeAt Go.RowKit
/-- some bool -/
def IsB (e : Ending) : Prop := ∃ b, e = .returned (.bool b)
theorem isb (b : Bool) : IsB (Ending.returned (.bool b)) := ⟨b, rfl⟩
theorem longvars_c (l : List Tab.V) (v : Value) (w : World) (h : Row 2 VarAt w v l) :
  Calls Tryz.prog 18 #[v] w fun e w' => IsB e ∧ w' = w := by
 obtain ⟨a, c, rfl, h1, h2, hat⟩ := h
 unfold maxLen at h2
 have HAT := Lib.hid hat
 clear hat
 go_enter Tryz.func18, Tryz.ntmps18
 go_wp2_with fail
 go_loopw [3] (fun q wr => ∃ j : Nat, j ≤ l.length ∧ q = .int .i64 j ∧ wr = w) (fun q wr => l.length - (intOf q).toNat)
 case atStart => exact ⟨0, Nat.zero_le _, rfl, by first | trivial | rfl⟩
 case round =>
  obtain ⟨j, hj, rfl, rfl⟩ := hrel
  by_cases hlt : j < l.length
  ·have hltI : (j : Int) < (l.length : Int) := by omega
   have hx : l[j]? = some l[j] := List.getElem?_eq_getElem hlt
   obtain ⟨b, o, rfl, x0, x1, hs⟩ := HAT.out _ _ hx
   generalize l[j] = x at hx x0 x1 hs
   by_cases q1 : 30 < x.name.size
   ·have q1I : (30 : Int) < (x.name.size : Int) := by omega
    clear hx
    go_wp2_with fail
    go_ret
    exact ⟨isb _, rfl⟩
   ·have q1I : ¬ (30 : Int) < (x.name.size : Int) := by omega
    by_cases q2 : 30 < x.typ.size
    ·have q2I : (30 : Int) < (x.typ.size : Int) := by omega
     clear hx
     go_wp2_with fail
     go_ret
     exact ⟨isb _, rfl⟩
    ·have q2I : ¬ (30 : Int) < (x.typ.size : Int) := by omega
     clear hx
     go_wp2_with fail
     go_roundw
     case rel => exact ⟨j + 1, by omega, by go_num, by first | trivial | rfl⟩
     case measure => simp [intOf]; omega
  ·have hltI : ¬ (j : Int) < (l.length : Int) := by omega
   go_wp2_with fail
   go_ret
   exact ⟨isb _, rfl⟩
/-- what a class that isn't long has -/
def ShortM (m : Tab.M) : Prop := m.params.length ≤ 10
def ShortC (c : Tab.C) : Prop := c.fields.length ≤ 7 ∧ c.methods.length ≤ 7 ∧ ∀ m ∈ c.methods, ShortM m
/-- what LongTable tells -/
def LongPost (t : List Tab.C) (e : Ending) : Prop := ∃ b, e = .returned (.bool b) ∧ (b = false → t.length ≤ 9 ∧ ∀ c ∈ t, ShortC c)
theorem long_yes (t : List Tab.C) : LongPost t (.returned (.bool true)) := ⟨true, rfl, fun h => by cases h⟩
theorem all_more {α : Type} {P : α → Prop} {l : List α} {k : Nat} {x : α} (h : ∀ y ∈ l.take k, P y) (hx : l[k]? = some x) (hp : P x) : ∀ y ∈ l.take (k + 1), P y := by
 intro y hy
 rw [List.take_add_one, hx] at hy
 rcases List.mem_append.1 hy with hy | hy
 ·exact h y hy
 ·simp at hy; rw [hy]; exact hp
set_option maxHeartbeats 4000000 in
theorem long_c (t : List Tab.C) (v : Value) (w : World) (h : TabAt w v t) :
  Calls Tryz.prog 5 #[v] w fun e w' => LongPost t e ∧ Kept w w' := by
 obtain ⟨a, cp, rfl, h1, h2, hat⟩ := h
 unfold maxLen at h2
 have HAT := Lib.hid hat
 clear hat
 go_enter Tryz.func5, Tryz.ntmps5
 go_wp2_with fail
 go_loopw [3] (fun q wr => ∃ i : Nat, i ≤ t.length ∧ i ≤ 10 ∧ q = .int .i64 i ∧ Kept w wr ∧ ∀ c ∈ t.take i, ShortC c) (fun q wr => t.length - (intOf q).toNat)
 case atStart => exact ⟨0, Nat.zero_le _, by omega, rfl, Kept.refl _, by simp⟩
 case round =>
  obtain ⟨i, hi, hi10, rfl, hkp, hs⟩ := hrel
  have HS := Lib.hid hs
  have HK := Lib.hid hkp
  clear hs
  by_cases hlt : i < t.length
  ·have hltI : (i : Int) < (t.length : Int) := by omega
   by_cases ht : i < 10
   ·have htI : (i : Int) < 10 := by omega
    have hx : t[i]? = some t[i] := List.getElem?_eq_getElem hlt
    have HX := Lib.hid hx
    obtain ⟨b, o, rfl, hcl⟩ := HAT.out _ _ hx
    generalize t[i] = c at hx HX hcl
    obtain ⟨c0, c1, ⟨fu, c2, hf⟩, ⟨mu, c3, hm⟩, hs1, hs2⟩ := hcl.kept hkp
    have HF := Lib.hid hf
    obtain ⟨fa, fc, rfl, hf1, hf2, _⟩ := hf
    obtain ⟨ma, mc, rfl, hm1, hm2, hmat⟩ := hm
    unfold maxLen at hf2 hm2 hs1 hs2
    have HMAT := Lib.hid hmat
    have HB := Lib.hid (Blk.new wr 44 #[.string c.name, .string c.super, .slice fa c.fields.length fc, .slice ma c.methods.length mc])
    have HKA := Lib.hid (hkp.alloc (.cells #[.string c.name, .string c.super, .slice fa c.fields.length fc, .slice ma c.methods.length mc] 44))
    have HL := Lib.hid (fun w1 (k1 : Kept wr w1) => longvars_c c.fields (.slice fa c.fields.length fc) w1 (vars_kept HF.out k1))
    clear hx hcl hkp hmat
    by_cases q1 : 30 < c.name.size
    ·have q1I : (30 : Int) < (c.name.size : Int) := by omega
     go_wp2_with fail
     go_ret
     exact ⟨long_yes _, HKA.out⟩
    ·have q1I : ¬ (30 : Int) < (c.name.size : Int) := by omega
     by_cases q2 : 30 < c.super.size
     ·have q2I : (30 : Int) < (c.super.size : Int) := by omega
      go_wp2_with fail
      go_ret
      exact ⟨long_yes _, HKA.out⟩
     ·have q2I : ¬ (30 : Int) < (c.super.size : Int) := by omega
      by_cases q3 : 7 < c.fields.length
      ·have q3I : (7 : Int) < (c.fields.length : Int) := by omega
       go_wp2_with fail
       go_ret
       exact ⟨long_yes _, HKA.out⟩
      ·have q3I : ¬ (7 : Int) < (c.fields.length : Int) := by omega
       by_cases q4 : 7 < c.methods.length
       ·have q4I : (7 : Int) < (c.methods.length : Int) := by omega
        go_wp2_with fail
        go_ret
        exact ⟨long_yes _, HKA.out⟩
       ·have q4I : ¬ (7 : Int) < (c.methods.length : Int) := by omega
        have HL1 := Lib.hid (HL.out _ ((Kept.refl wr).alloc (.cells #[.string c.name, .string c.super, .slice fa c.fields.length fc, .slice ma c.methods.length mc] 44)))
        go_wp2_with fail
        refine HL1.out.mono ?_
        rintro e w3 ⟨⟨bv, rfl⟩, rfl⟩
        cases bv with
        | true =>
         go_wp2_with fail
         go_ret
         exact ⟨long_yes _, HKA.out⟩
        | false =>
         go_wp2_with fail
         clear c0 c1 c2 c3
         obtain ⟨wo, rfl⟩ : ∃ wo, wo = wr := ⟨_, rfl⟩
         go_loopw [5] (fun q wr => ∃ k : Nat, k ≤ c.methods.length ∧ q = .int .i64 k ∧ Kept w wr ∧ Kept wo wr ∧ Blk wr wo.heap.size 44 #[.string c.name, .string c.super, .slice fa c.fields.length fc, .slice ma c.methods.length mc] ∧ ∀ m ∈ c.methods.take k, ShortM m) (fun q wr => c.methods.length - (intOf q).toNat)
         case atStart => exact ⟨0, Nat.zero_le _, rfl, HKA.out, (Kept.refl wo).alloc _, HB.out, by simp⟩
         case round =>
          obtain ⟨k, hk, rfl, hkw, hkr, hbs, hms⟩ := hrel
          have HMS := Lib.hid hms
          have HKW := Lib.hid hkw
          have HKR := Lib.hid hkr
          have HBS := Lib.hid hbs
          have d3 := hbs.cell 3
          simp at d3
          clear hms
          by_cases hml : k < c.methods.length
          ·have hmlI : (k : Int) < (c.methods.length : Int) := by omega
           have hy : c.methods[k]? = some c.methods[k] := List.getElem?_eq_getElem hml
           have HY := Lib.hid hy
           obtain ⟨b2, o2, rfl, hsg⟩ := HMAT.out _ _ hy
           generalize c.methods[k] = m at hy HY hsg
           obtain ⟨m0, ⟨pu, m1, hp⟩, m2, ms1, ms2⟩ := hsg.kept hkr
           have HP := Lib.hid hp
           obtain ⟨pa, pc, rfl, hp1, hp2, _⟩ := hp
           unfold maxLen at hp2 ms1 ms2
           have HKM := Lib.hid (hkw.alloc (.cells #[.string m.name, .slice pa m.params.length pc, .string m.res] 47))
           have HKN := Lib.hid (hkr.alloc (.cells #[.string m.name, .slice pa m.params.length pc, .string m.res] 47))
           have HBM := Lib.hid (hbs.alloc (.cells #[.string m.name, .slice pa m.params.length pc, .string m.res] 47))
           have HLM := Lib.hid (longvars_c m.params (.slice pa m.params.length pc) _ (vars_kept HP.out ((Kept.refl wr).alloc (.cells #[.string m.name, .slice pa m.params.length pc, .string m.res] 47))))
           clear hy hsg hkw hkr hbs
           by_cases r1 : 30 < m.name.size
           ·have r1I : (30 : Int) < (m.name.size : Int) := by omega
            go_wp2_with fail
            go_ret
            exact ⟨long_yes _, HKM.out⟩
           ·have r1I : ¬ (30 : Int) < (m.name.size : Int) := by omega
            by_cases r2 : 30 < m.res.size
            ·have r2I : (30 : Int) < (m.res.size : Int) := by omega
             go_wp2_with fail
             go_ret
             exact ⟨long_yes _, HKM.out⟩
            ·have r2I : ¬ (30 : Int) < (m.res.size : Int) := by omega
             by_cases r3 : 10 < m.params.length
             ·have r3I : (10 : Int) < (m.params.length : Int) := by omega
              go_wp2_with fail
              go_ret
              exact ⟨long_yes _, HKM.out⟩
             ·have r3I : ¬ (10 : Int) < (m.params.length : Int) := by omega
              go_wp2_with fail
              refine HLM.out.mono ?_
              rintro e w4 ⟨⟨bm, rfl⟩, rfl⟩
              cases bm with
              | true =>
               go_wp2_with fail
               go_ret
               exact ⟨long_yes _, HKM.out⟩
              | false =>
               have HMO := Lib.hid (all_more HMS.out HY.out (show ShortM m by unfold ShortM; omega))
               go_wp2_with fail
               go_roundw
               case rel => exact ⟨k + 1, by omega, by go_num, HKM.out, HKN.out, HBM.out, HMO.out⟩
               case measure => simp [intOf]; omega
          ·have hmlI : ¬ (k : Int) < (c.methods.length : Int) := by omega
           obtain rfl : k = c.methods.length := by omega
           have HMO := Lib.hid (all_more HS.out HX.out (show ShortC c from ⟨by omega, by omega, by have := HMS.out; rwa [List.take_length] at this⟩))
           go_wp2_with fail
           go_roundw
           case rel => exact ⟨i + 1, by omega, by omega, by go_num, HKW.out, HMO.out⟩
           case measure => simp [intOf]; omega
   ·have htI : ¬ (i : Int) < 10 := by omega
    have h9 : (9 : Int) < (t.length : Int) := by omega
    go_wp2_with fail
    go_ret
    exact ⟨long_yes _, HK.out⟩
  ·have hltI : ¬ (i : Int) < (t.length : Int) := by omega
   obtain rfl : i = t.length := by omega
   by_cases h9 : 9 < t.length
   ·have h9I : (9 : Int) < (t.length : Int) := by omega
    go_wp2_with fail
    go_ret
    exact ⟨long_yes _, HK.out⟩
   ·have h9I : ¬ (9 : Int) < (t.length : Int) := by omega
    have HE := Lib.hid (show LongPost t (.returned (.bool false)) from ⟨false, rfl, fun _ => ⟨by omega, by have := HS.out; rwa [List.take_length] at this⟩⟩)
    go_wp2_with fail
    go_ret
    exact ⟨HE.out, HK.out⟩
end Go.Proofs.YtjdkegfckkbpeaaGreatDoor
