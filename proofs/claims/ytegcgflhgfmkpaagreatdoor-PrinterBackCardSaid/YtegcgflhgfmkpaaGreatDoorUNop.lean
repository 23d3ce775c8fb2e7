import Derived.Test.YtegcgflhgfmkpaaGreatDoorUw4
import Derived.OpenShut
import Derived.Carry
import Derived.ShutString
import Derived.ProofKit
import Derived.Deep.Fields
import Derived.Deep.Slices
import Derived.ChangeSame
import Derived.Lib.LaidTab
set_option linter.unusedSimpArgs false
set_option linter.unusedVariables false
set_option maxRecDepth 100000
namespace Go.Proofs.YtegcgflhgfmkpaaGreatDoor
open _root_.Go.Proofs.Tryz
open Go.ChangeShapes Go.WideShapes Go.ChangeAt Go.RowKit Go.Deep
theorem row_of_eachN {α : Type} {k : Nat} {R : World -> Nat -> Nat -> α -> Prop} {w : World} {ad : Addr} {n c : Nat} (hl : n <= c) (hm : c <= maxLen)
  (each : ∀ i, i < n -> ∃ y : α, ∃ b o, ad = ⟨b, o, none⟩ /\ R w b (o + i * k) y) : ∃ l : List α, l.length = n /\ Row k R w (.slice (some ad) n c) l := by
 let g : Fin n -> α := fun i => Classical.choose (each i.1 i.2)
 have gs : ∀ i : Fin n, ∃ b o, ad = ⟨b, o, none⟩ /\ R w b (o + i.1 * k) (g i) := fun i => Classical.choose_spec (each i.1 i.2);have hlen : (List.ofFn g).length = n := List.length_ofFn;refine ⟨List.ofFn g, hlen, some ad, c, by rw [hlen], by rw [hlen]; exact hl, hm, fun i y hy => ?_⟩;obtain ⟨hin, hyy⟩ := List.getElem?_eq_some_iff.1 hy;have hin' : i < n := by rw [hlen] at hin; exact hin
 have hyg : y = g ⟨i, hin'⟩ := by rw [<- hyy]; simp
 rw [hyg];obtain ⟨b, o, e, hr⟩ := gs ⟨i, hin'⟩;exact ⟨b, o, by rw [e], hr⟩
section
variable {H : Type} {enc : TypeId × Value -> H} {w : World} {base : Nat} {spare : Nat -> Bool} {held : Bool}
theorem nd_fields : ∃ fs : Array Field, prog.underlying 24 = some (.struct fs) /\ oneCellFields prog fs = true /\ fs.size = 6 /\ (∃ f, fs[0]? = some f /\ f.type = 3) /\ (∃ f, fs[1]? = some f /\ f.type = 9) /\ (∃ f, fs[2]? = some f /\ f.type = 9) /\ (∃ f, fs[3]? = some f /\ f.type = 9) /\ (∃ f, fs[4]? = some f /\ f.type = 3) /\ (∃ f, fs[5]? = some f /\ f.type = 22) := by
 refine ⟨_, underlying24, ?_, rfl, ⟨_, rfl, rfl⟩, ⟨_, rfl, rfl⟩, ⟨_, rfl, rfl⟩, ⟨_, rfl, rfl⟩, ⟨_, rfl, rfl⟩, ⟨_, rfl, rfl⟩⟩
 kernel_rfl
theorem lit_wf {n : Int} (h : (Lit.int .i64 n).wf = true) : -9223372036854775808 <= n /\ n <= 9223372036854775807 := by
 have hmin : IntKind.i64.min = -9223372036854775808 := by decide
 have hmax : IntKind.i64.max = 9223372036854775807 := by decide
 simp only [Lit.wf, hmin, hmax, Bool.and_eq_true, decide_eq_true_eq] at h;exact h
theorem addr_plainN (b o k : Nat) : (⟨b, o, none⟩ : Addr).add k = ⟨b, o + k, none⟩ := by
 unfold Addr.add
 split
 ·simp_all
 ·rfl
theorem open_node : ∀ (fuel : Nat) {cs : List Value} {x : DataW H × List MemPlace}, DataW.trod enc prog w base spare held fuel 24 cs = some x ->
  ∃ (y : Nd) (ad : Option Addr) (c : Nat), cs = ndC y (.slice ad y.kids.length c) /\ y.ok1 /\ KidsAt w (.slice ad y.kids.length c) y.kids := by
 intro fuel
 induction fuel using Nat.strongRecOn with
 | _ fuel ih =>
  intro cs x h;obtain ⟨fs, hs, hone, hsz, ⟨f0, e0, t0⟩, ⟨f1, e1, t1⟩, ⟨f2, e2, t2⟩, ⟨f3, e3, t3⟩, ⟨f4, e4, t4⟩, ⟨f5, e5, t5⟩⟩ := nd_fields;obtain ⟨ys, n', hn', hy, hlen, hyl, hf⟩ := DataW.trod_struct hs h;have hC : prog.cellsOf 24 = 6 := by kernel_rfl
  have hcl : cs.length = 6 := hlen.trans hC
  match cs, hcl with
  | [v0, v1, v2, v3, v4, v5], _ =>
   obtain ⟨o0, k0⟩ := hone_of hone 0 f0 e0;obtain ⟨o1, k1⟩ := hone_of hone 1 f1 e1;obtain ⟨o2, k2⟩ := hone_of hone 2 f2 e2;obtain ⟨o3, k3⟩ := hone_of hone 3 f3 e3;obtain ⟨o4, k4⟩ := hone_of hone 4 f4 e4;obtain ⟨o5, k5⟩ := hone_of hone 5 f5 e5;have g0 := hf 0 f0 e0;have g1 := hf 1 f1 e1;have g2 := hf 2 f2 e2;have g3 := hf 3 f3 e3;have g4 := hf 4 f4 e4;have g5 := hf 5 f5 e5;rw [hsz] at hyl
   match ys, hyl with
   | [y0, y1, y2, y3, y4, y5], _ =>
    rw [o0, k0, t0] at g0;rw [o1, k1, t1] at g1;rw [o2, k2, t2] at g2;rw [o3, k3, t3] at g3;rw [o4, k4, t4] at g4;rw [o5, k5, t5] at g5;have g0' : DataW.trod enc prog w base spare held n' 3 [v0] = some y0 := g0;have g1' : DataW.trod enc prog w base spare held n' 9 [v1] = some y1 := g1;have g2' : DataW.trod enc prog w base spare held n' 9 [v2] = some y2 := g2;have g3' : DataW.trod enc prog w base spare held n' 9 [v3] = some y3 := g3;have g4' : DataW.trod enc prog w base spare held n' 3 [v4] = some y4 := g4;have g5' : DataW.trod enc prog w base spare held n' 22 [v5] = some y5 := g5;obtain ⟨m0, r0, _, w0⟩ := DataW.trod_int underlying3 g0';obtain ⟨s1, r1, _, w1⟩ := DataW.trod_string underlying9 g1';obtain ⟨s2, r2, _, w2⟩ := DataW.trod_string underlying9 g2';obtain ⟨s3, r3, _, w3⟩ := DataW.trod_string underlying9 g3';obtain ⟨m4, r4, _, w4⟩ := DataW.trod_int underlying3 g4';injection r0 with r0;injection r1 with r1;injection r2 with r2;injection r3 with r3;injection r4 with r4;subst r0 r1 r2 r3 r4;rcases DataW.trod_slice underlying22 g5' with ⟨hcs, _⟩ | ⟨ad, len, cap, elems, rest, n2, hn2, hcs, _, hb, hl, hm, hel0, hel, _, _⟩
    ·injection hcs with hcs;subst hcs;exact ⟨.mk m0 s1 s2 s3 m4 [], none, 0, rfl, ⟨lit_wf w0, lit_wf w4, w1, w2, w3⟩, Row.nil⟩
    ·injection hcs with hcs;subst hcs;obtain ⟨l, hl', hr⟩ := row_of_eachN (k := 6) (R := NdD fun _ => True) (w := w) (ad := ad) hl hm (fun i hin => by
      have hi := hel i hin;have hx : elems[i]? = some elems[i] := List.getElem?_eq_getElem (by omega);rw [hC, hx] at hi;obtain ⟨cs', hc, ht'⟩ := Option.bind_eq_some_iff.1 hi;obtain ⟨y, ya, yc, rfl, yok, yk⟩ := ih n2 (by omega) ht';obtain ⟨_, _, hat⟩ := World.cells?_some hc;have hspot : ad.spot = none := by
       have hi0 := hel 0 (by omega);have hx0 : elems[0]? = some elems[0] := List.getElem?_eq_getElem (by omega);rw [hC, hx0] at hi0;obtain ⟨cs0, hc0, ht0⟩ := Option.bind_eq_some_iff.1 hi0;obtain ⟨y0', ya0, yc0, rfl, _, _⟩ := ih n2 (by omega) ht0;obtain ⟨_, _, hat0⟩ := World.cells?_some hc0;have d0 := hat0 0 (by decide)
       simpa [Addr.add] using World.cell?_spot d0
      obtain ⟨b, off, spot⟩ := ad;have hs2 : spot = none := hspot;subst hs2;refine ⟨y, b, off, rfl, NdD.shut (fun j v hv => ?_) yok yk trivial⟩;have hj : j < 6 := by have := (List.getElem?_eq_some_iff.1 hv).1; simpa [ndC] using this
      have := hat j hj;rw [hv, addr_plainN, addr_plainN] at this;exact this)
     subst hl';exact ⟨.mk m0 s1 s2 s3 m4 l, some ad, cap, rfl, ⟨lit_wf w0, lit_wf w4, w1, w2, w3⟩, hr⟩
end
end Go.Proofs.YtegcgflhgfmkpaaGreatDoor
