/- Texts. -/
import Derived.Test.YtegcgflhgfmkpaaGreatDoorUTkm
import Derived.Test.YtegcgflhgfmkpaaGreatDoorUw10
import Derived.StringKeys
set_option linter.unusedSimpArgs false
set_option linter.unusedVariables false
set_option maxRecDepth 100000
set_option maxHeartbeats 16000000
namespace Go.Proofs.YtegcgflhgfmkpaaGreatDoor
open Lib (hid)
open _root_.Go.Proofs.Tryz
open Go.ChangeShapes Go.WideShapes Go.ChangeAt Go.RowKit
attribute [local go_sem] Oper.semAt_some
open Ps (O W)
section
variable {p : PP} {F : Ps.Fam} {k : Nat}
structure Ways (p : PP) (F : Ps.Fam) (k : Nat) : Prop where
 some : ∀ t r v, p.f (Ps.srt t) = some v -> Ps.srt t ≠ Ps.theEnd /\ ∃ g way, v = .func (.func g) #[] #[] /\ (∀ args w, (callFunc g args).run prog w = .ok (.enter g args) w) /\ WayC p k g way /\ Ps.prim F (t :: r) = way t r
 none : ∀ t r, p.f (Ps.srt t) = none -> Ps.prim F (t :: r) = .bad t.pos
theorem way_zero (w : World) : (zeroValue 179).run prog w = .ok .nilFunc w := by kernel_rfl
theorem srt_size {t : Lx.T} (h : Ps.tokOk t) : (Ps.srt t).size <= maxLen := by
 unfold Ps.srt
 split
 ·exact h.2.1
 ·split
  ·exact h.2.1
  ·unfold Ps.srtK
   split
   ·decide
   split
   ·decide
   split
   ·decide
   split
   ·decide
   split
   ·decide
   split
   ·decide
   ·decide
theorem prim_c (hW : Ways p F k) (l : List Lx.T) (w : World) (hk : l.length <= k + 1) (hp : Pst p l w) : Calls prog 198 #[.pointer (some ⟨p.B, 0, none⟩)] w (NodePost p l (Ps.prim F l) w) := by
 obtain ⟨t, r, rfl, htok⟩ := hp.good.cons;obtain ⟨W0, hW0⟩ : ∃ W0, w.alloc (.cells pzN nT) = W0 := ⟨_, rfl⟩;have k0 := kpA hW0;have HZ0 := hid (szA hW0);have HB0 := hid (bkA hW0);have HP0 := hid (hp.kept k0);have HN := hid hp.lt;have HO0 := hid (show Only (· = p.B) w W0 from Only.of_kept k0);have HW0 := hid hW0;have HKL := hid (show r.length <= k by rw [List.length_cons] at hk; omega);have HSZ := hid (srt_size htok);have HS0 := hid (show W0.drew.cell? ⟨p.B, 1, none⟩ = some (.map (some p.m)) /\ MapF prog 9 p.m 20 p.f W0.drew by
  obtain ⟨ad, c, hb, _⟩ := (hp.kept k0).drew.blk;exact ⟨hb.cell 1, (hp.kept k0).drew.sta.map⟩)
 clear hp k0 hW0 hk htok
 cases hf : p.f (Ps.srt t) with
 | none =>
  have HL := hid (fun W (h : MapF prog 9 p.m 20 p.f W) => show (Instr.lookup 113 (.map (some p.m)) (.string (Ps.srt t)) true).run prog W = .ok (.tuple #[.nilFunc, .bool false]) W by
   have := h.look (Maps.string_keyed (P := prog) underlying9) underlying113 (way_zero W) (Ps.srt t) (WideMaps.keyOf_string_mk underlying9 HSZ.o);rw [hf] at this;exact this)
  have HE := hid (hW.none t r hf);clear hf;go_enter func198, ntmps198;go_wp2_with (rw [HW0.o]);refine wp_region_till (S := (fun W => W.cell? ⟨p.B, 1, none⟩ = some (.map (some p.m)) /\ MapF prog 9 p.m 20 p.f W)) 11 (by kernel_rfl) HS0.o (fun hHeld0 => ?_);refine nkT 0 ?_;refine nkT 1 ?_;refine nkT 2 ?_;refine nkT 3 ?_;refine nkT 4 ?_;refine r1T 5 (fun K hK => ?_);go_simp;refine (psort_c _ HP0.o.drew).mono ?_;rintro e w1 ⟨rfl, k1⟩;refine hK.out _ _ ⟨k1.cell HS0.o.1, HS0.o.2.only (S := fun _ => False) (Only.of_kept k1) (fun h => h)⟩ (fun hHeld1 => ?_);clear hK K;(try simp only [Act.put, aL])
  have HP1 := hid (HP0.o.drew.kept k1);have HO1 := hid (HO0.o.drew.trans (Only.of_kept k1));clear k1 hHeld0;refine wpAnyT_take (i := 6) (v := .tuple #[.nilFunc, .bool false]) rfl (by kernel_rfl) (by kernel_rfl) (by kernel_rfl) (fun _ _ _ h => h) (Or.inl ⟨by kernel_rfl, fun w hSw => ?_⟩) (by assumption) ?_
  ·go_simp;rw [HL.o w hSw.2]
   rfl
  (try simp only [Act.put, aL])
  refine nkT 7 ?_;refine nkT 8 ?_;refine nkT 9 ?_;refine nkT 10 ?_;refine lTT (fun K hK => ?_);go_simp;refine hK.out _ _ ?_;clear hK K;(try simp only [Act.put, aL])
  refine wpAnyT_done (by kernel_rfl) ?_ _;clear hHeld1;go_wp2_with fail;refine (prefuse_c _ HP1.o).mono ?_;rintro e w2 ⟨rfl, k2⟩;have HH := hid (HO1.o.trans (Only.of_kept k2));clear k2;go_wp2_with fail;exact ⟨rfl, .inr ⟨_, HE.o, rfl, HH.o⟩⟩
 | some v =>
  obtain ⟨hne, g, way, rfl, eg, hway, he⟩ := hW.some t r v hf;have HL := hid (fun W (h : MapF prog 9 p.m 20 p.f W) => show (Instr.lookup 113 (.map (some p.m)) (.string (Ps.srt t)) true).run prog W = .ok (.tuple #[.func (.func g) #[] #[], .bool true]) W by
   have := h.look (Maps.string_keyed (P := prog) underlying9) underlying113 (way_zero W) (Ps.srt t) (WideMaps.keyOf_string_mk underlying9 HSZ.o);rw [hf] at this;exact this)
  have HE := hid he;have HNE := hid hne;have HWY := hid hway;clear hf he hne hway;go_enter func198, ntmps198;go_wp2_with (rw [HW0.o]);refine wp_region_till (S := (fun W => W.cell? ⟨p.B, 1, none⟩ = some (.map (some p.m)) /\ MapF prog 9 p.m 20 p.f W)) 11 (by kernel_rfl) HS0.o (fun hHeld0 => ?_);refine nkT 0 ?_;refine nkT 1 ?_;refine nkT 2 ?_;refine nkT 3 ?_;refine nkT 4 ?_;refine r1T 5 (fun K hK => ?_);go_simp;refine (psort_c _ HP0.o.drew).mono ?_;rintro e w1 ⟨rfl, k1⟩;refine hK.out _ _ ⟨k1.cell HS0.o.1, HS0.o.2.only (S := fun _ => False) (Only.of_kept k1) (fun h => h)⟩ (fun hHeld1 => ?_);clear hK K;(try simp only [Act.put, aL])
  have HP1 := hid (HP0.o.drew.kept k1);have HO1 := hid (HO0.o.drew.trans (Only.of_kept k1));have HB1 := hid (HB0.o.drew.kept k1);have HZ1 := hid (Nat.le_trans HZ0.o k1.size);clear k1 hHeld0;refine wpAnyT_take (i := 6) (v := .tuple #[.func (.func g) #[] #[], .bool true]) rfl (by kernel_rfl) (by kernel_rfl) (by kernel_rfl) (fun _ _ _ h => h) (Or.inl ⟨by kernel_rfl, fun w hSw => ?_⟩) (by assumption) ?_
  ·go_simp;rw [HL.o w hSw.2]
   rfl
  (try simp only [Act.put, aL])
  refine nkT 7 ?_;refine nkT 8 ?_;refine nkT 9 ?_;refine nkT 10 ?_;refine lTT (fun K hK => ?_);go_simp;refine hK.out _ _ ?_;clear hK K;(try simp only [Act.put, aL])
  refine wpAnyT_done (by kernel_rfl) ?_ _;clear hHeld1;go_wp2_with fail;refine (HWY.o t r _ HKL.o HP1.o HNE.o).mono ?_;rintro e w2 (⟨x2, ks2, r2, v2, h1, rfl, hx, hk, h4, h5, hok, h7⟩ | ⟨q, hb, rfl, ho⟩);rotate_left
  ·have HH := hid (show Ps.prim F (t :: r) = .bad q /\ Only (· = p.B) w w2 from ⟨HE.o.trans hb, HO1.o.trans ho⟩);clear hb ho;go_wp2_with fail;exact ⟨rfl, .inr ⟨_, HH.o.1, rfl, HH.o.2⟩⟩
  obtain ⟨va2, vc2, rfl⟩ := hk.slice;have HB2 := hid (HB1.o.only h5 (by have := HN.o; omega));have HH := hid (show Ps.prim F (t :: r) = .ok x2 r2 /\ x2.kids = ks2.map (·.1) /\ KRow (w.heap.size + 1) w2 (.slice va2 ks2.length vc2) ks2 /\ Pst p r2 w2 /\ Only (· = p.B) w w2 /\ x2.ok1 /\ x2.count + r2.length <= (t :: r).length from ⟨HE.o.trans h1, hx, hk.lower HZ1.o, h4, HO1.o.trans h5, hok, h7⟩);clear h1 hx hk h4 h5 hok h7;obtain ⟨⟨y0, y1, y2, y3, y4, y5⟩, f0, f1, f2, f3, f4, f5⟩ := nd_six HB2.o;go_wp2_with fail;exact node_end (x := x2) (ks := ks2) (v := .slice va2 ks2.length vc2) (by rfl) rfl rfl HB2.o HH.o.1 HH.o.2.1 HH.o.2.2.1 HH.o.2.2.2.1 HN.o.2 HH.o.2.2.2.2.1 HH.o.2.2.2.2.2.1 HH.o.2.2.2.2.2.2
end
end Go.Proofs.YtegcgflhgfmkpaaGreatDoor
namespace Go.Proofs.YtegcgflhgfmkpaaGreatDoor
open Go.ChangeShapes Go.WideShapes Go.ChangeAt Go.RowKit
attribute [local go_sem] Oper.semAt_some
open Ps (O W)
section
variable {D : Nat -> Prop} {base : Nat} {p : PP} {w W W' : World} {gx : Nat} {x : Nd} {v : Value} {ks : List (Nd × Value)} {r r' : List Lx.T}
theorem KRowD.kids (h : KRowD D base W v ks) (hv : ∀ k, v.ownBlock = some k -> D k) : KidsD D W v (ks.map (·.1)) := by
 rcases h.1.2 with ⟨rfl, hl0⟩ | ⟨g, cap, cur, rfl, hg1, hg2, hg3, hg4, hg5, hg6⟩
 ·obtain rfl : ks = [] := List.eq_nil_of_length_eq_zero hl0;exact Row.nil
 ·refine ⟨_, cap, by rw [List.length_map], by rw [List.length_map]; exact hg3, hg4, fun i y hy => ⟨g, 0, rfl, ?_⟩⟩;rw [List.getElem?_map] at hy;obtain ⟨q, hq, rfl⟩ := Option.map_eq_some_iff.1 hy;obtain ⟨hok, hk⟩ := h.2 q (List.mem_of_getElem? hq);obtain ⟨a, c, e, h1, h2, h3⟩ := hk;have hk' : KidsD D W (.slice a q.1.kids.length c) q.1.kids := ⟨a, c, rfl, h1, h2, fun i x hx => by obtain ⟨b, o, e, r⟩ := h3 i x hx; exact ⟨b, o, e, r.mono fun k _ hk => hk.1⟩⟩;refine NdD.shut (ad := a) (c := c) (fun j u hu => ?_) hok hk' (hv g rfl);rw [<- e] at hu;have hj : j < 6 := by
   rcases Nat.lt_or_ge j 6 with h | h
   ·exact h
   ·rw [List.getElem?_eq_none (by rw [ndC_len]; exact h)] at hu; cases hu
  have c0 := h.1.cells (g := g) rfl _ _ ((flat_at (fun p : Nd × Value => ndC p.1 p.2) ndC_len ks i j q hq hj).trans hu);rw [Addr.add_lit] at c0
  simpa [Nat.add_assoc] using c0
theorem KRowD.lit (ks : List (Nd × Value)) {X : World} {cs : Array Value} {g n : Nat} (hg : g = X.heap.size) (hn : n = ks.length) (hcs : cs = (ks.flatMap fun p => ndC p.1 p.2).toArray) (hb : base <= X.heap.size) (hm : ks.length <= 100)
  (h : ∀ q ∈ ks, q.1.ok1 /\ KidsD D X q.2 q.1.kids) : KRowD D base (X.alloc (.cells cs nT)) (.slice (some ⟨g, 0, none⟩) n n) ks := by
 subst hg hn hcs;have hl := flat_len (fun p : Nd × Value => ndC p.1 p.2) ndC_len ks;refine ⟨⟨hl, .inr ⟨X.heap.size, ks.length, _, rfl, hb, Blk.new X nT _, Nat.le_refl _, by unfold maxLen; omega, by simpa using hl, by rw [List.take_of_length_le (by simpa using Nat.le_of_eq hl)]⟩⟩, fun q hq => ?_⟩;obtain ⟨h1, h3⟩ := h q hq;refine ⟨h1, ?_⟩;refine (h3.mono (E := fun k => D k /\ (Value.slice (some ⟨X.heap.size, 0, none⟩) ks.length ks.length).ownBlock ≠ some k) fun k hk hd => ⟨hd, fun e => ?_⟩).kept ((Kept.refl X).alloc _);have : X.heap.size = k := by simpa [Value.ownBlock] using e
 omega
theorem AppI.put (h : AppI p w gx x v ks r W) {v' : Value} {k2 : List (Nd × Value)} (hr : KRowD (fun k => w.heap.size + 1 <= k /\ k ≠ gx) (w.heap.size + 1) W v' k2) (hne : v'.ownBlock ≠ some gx) (x' : Nd) : AppI p w gx x' v' k2 r (put6n W gx x' v') := by
 have hge := h.gx;have o3 := put6n_only W gx x' v';exact ⟨put6n_blk h.box x' v', hr.only o3 (fun k hk e => hne (by rw [hk, e])) (fun k hk e => hk.2 e), hne, h.res.only o3 (by omega), h.gx, h.pst.only o3 (fun b hb e => by omega), h.only.past (o3.mono (T := fun k => w.heap.size + 1 <= k) fun k _ e => by omega) (by omega)⟩
theorem AppI.asKid (h : AppI p w gx x v ks r W) (hx : x.kids = ks.map (·.1)) : KidsD (fun k => w.heap.size + 1 <= k /\ k ≠ gx) W v x.kids := by
 rw [hx];exact h.row.kids fun k hk => ⟨owns_block0 h.row.1 hk, fun e => h.ne (by rw [hk, e])⟩
theorem AppI.lit1 (h : AppI p w gx x v ks r W) (hx : x.kids = ks.map (·.1)) (hok : x.ok1) :
  KRowD (fun k => w.heap.size + 1 <= k /\ k ≠ gx) (w.heap.size + 1) (W.alloc (.cells (ndA x v) nT)) (.slice (some ⟨W.heap.size, 0, none⟩) 1 1) [(x, v)] /\ (Value.slice (some ⟨W.heap.size, 0, none⟩) 1 1).ownBlock ≠ some gx := by
 refine ⟨KRowD.lit [(x, v)] rfl rfl rfl h.size (by simp) (fun q hq => by
  rw [List.mem_singleton] at hq; subst hq;exact ⟨hok, h.asKid hx⟩), fun e => ?_⟩
 have := h.box.lt;have : W.heap.size = gx := by simpa [Value.ownBlock] using e
 omega
theorem KRowD.call {k2 : List (Nd × Value)} (hr : KRowD (fun k => w.heap.size + 1 <= k /\ k ≠ gx) (w.heap.size + 1) W v k2) (ho : Only (· = p.B) W W') (hb : p.B < w.heap.size) : KRowD (fun k => w.heap.size + 1 <= k /\ k ≠ gx) (w.heap.size + 1) W' v k2 :=
 hr.only ho (fun k hk e => by have := owns_block0 hr.1 hk; omega) (fun k hk e => by omega)
theorem AppI.lit2 {x1 : Nd} {v1 : Value} {k1 : List (Nd × Value)} {W1 : World} (h : AppI p w gx x v ks r W) (hx : x.kids = ks.map (·.1)) (hok : x.ok1) (ho : Only (· = p.B) W W1) (hp : Pst p r' W1) (hx1 : x1.kids = k1.map (·.1)) (hk : KRow W.heap.size W1 v1 k1) (hok1 : x1.ok1) :
  AppI p w gx x v ks r' W1 /\ KRowD (fun k => w.heap.size + 1 <= k /\ k ≠ gx) (w.heap.size + 1) (W1.alloc (.cells #[.int .i64 x.kind, .string x.text, .string x.typ, .string x.frm, .int .i64 x.n, v, .int .i64 x1.kind, .string x1.text, .string x1.typ, .string x1.frm, .int .i64 x1.n, v1] nT)) (.slice (some ⟨W1.heap.size, 0, none⟩) 2 2) [(x, v), (x1, v1)] /\
   (Value.slice (some ⟨W1.heap.size, 0, none⟩) 2 2).ownBlock ≠ some gx := by
 have h1 := h.call ho hp;have hlt := h.box.lt;refine ⟨h1, KRowD.lit [(x, v), (x1, v1)] rfl rfl rfl h1.size (by simp) (fun q hq => ?_), fun e => ?_⟩
 ·rcases List.mem_cons.1 hq with rfl | hq
  ·exact ⟨hok, h1.asKid hx⟩
  ·rw [List.mem_singleton] at hq; subst hq;have hk2 := hk.kids;rw [<- hx1] at hk2;exact ⟨hok1, hk2.mono fun k _ hd => ⟨Nat.le_trans h.size hd, by omega⟩⟩
 ·have := h1.box.lt;have : W1.heap.size = gx := by simpa [Value.ownBlock] using e
  omega
theorem AppI.cells (h : AppI p w gx x v ks r W) : W.cell? ⟨gx, 0, none⟩ = some (.int .i64 x.kind) /\ W.cell? ⟨gx, 1, none⟩ = some (.string x.text) /\ W.cell? ⟨gx, 2, none⟩ = some (.string x.typ) /\ W.cell? ⟨gx, 3, none⟩ = some (.string x.frm) /\ W.cell? ⟨gx, 4, none⟩ = some (.int .i64 x.n) /\ W.cell? ⟨gx, 5, none⟩ = some v :=
 (n6 h.box)
end
end Go.Proofs.YtegcgflhgfmkpaaGreatDoor
namespace Go.Proofs.YtegcgflhgfmkpaaGreatDoor
open Lib (hid)
open Go.ChangeShapes Go.WideShapes Go.ChangeAt Go.RowKit
attribute [local go_sem] Oper.semAt_some
open Ps (O W)
section
variable {p : PP} {F : Ps.Fam} {k : Nat}
theorem brackets_c (hF : FamC p F k) : WayC p k 116 (Ps.wBrackets F) := by
 intro t0 r0 w hk hp hsr;obtain ⟨W0, hW0⟩ : ∃ W0, w.alloc (.cells pzN nT) = W0 := ⟨_, rfl⟩;have k0 := kpA hW0;have HZ0 := hid (szA hW0);have HB0 := hid (bkA hW0);have HP0 := hid (hp.kept k0);have HN := hid hp.lt;have HO0 := hid (show Only (· = p.B) w W0 from Only.of_kept k0);have HW0 := hid hW0;have HSR := hid hsr;have HTK := hid (hp.good.ok t0 (by simp));have HKL := hid hk;clear hp k0 hW0 hsr hk;have hf1 := field_tok1;have hf2 := field_tok2;go_enter Tryz.func116, Tryz.ntmps116;go_wp2_with (rw [HW0.o]);refine (pnext_c _ HP0.o HSR.o).mono ?_;rintro e w1 ⟨rfl, h4, h5⟩;have HP1 := hid h4;have HO1 := hid (HO0.o.trans h5);have HZ1 := hid (Nat.le_trans HZ0.o (Only.size h5));have HB1 := hid (HB0.o.only h5 (by have := HN.o; omega));clear h4 h5;go_wp2_with fail;refine (pskip_c Ps.kShut r0 _ HP1.o (by decide +kernel)).mono ?_;rintro e w2 (⟨h1, rfl, h2, h3, h4⟩ | ⟨h1, rfl, h2, h3⟩)
 ·have HE2 := hid h1;have HL2 := hid h4;have HP2 := hid h2;have HO2 := hid (HO1.o.trans h3);have HB2 := hid (HB1.o.only h3 (by have := HN.o; omega));clear h1 h2 h3 h4;obtain ⟨⟨y0, y1, y2, y3, y4, y5⟩, f0, f1, f2, f3, f4, f5⟩ := nd_six HB2.o;go_wp2_with fail;refine node_end (x := Ps.nd 11 Ps.e0 Ps.e0 0 []) (ks := []) (by rfl) rfl rfl HB2.o (by simp only [Ps.wBrackets, HE2.o, if_true]) rfl (KRow.nil _ _) HP2.o HN.o.2 HO2.o (nd_ok1 _ _ _ _ _ (by decide) e0_size e0_size (by decide)) ?_;have := HL2.o;rw [count_nd, Nd.countL_nil, List.length_cons]; omega
 have HE2 := hid h1;have HP2 := hid h2;have HO2 := hid (HO1.o.trans h3);have HZ2 := hid (Nat.le_trans HZ1.o (Only.size h3));have HB2 := hid (HB1.o.only h3 (by have := HN.o; omega));clear h1 h2 h3;go_wp2_with fail;refine (hF.expr _ _ (by have := HKL.o; skip; omega) HP2.o).mono ?_;rintro e w3 (⟨x3, ks3, r3, v3, h1, rfl, hx, hk, h4, h5, hok, h7⟩ | ⟨q, hb, rfl, ho⟩);rotate_left
 ·have HH := hid (show (Ps.wBrackets F) t0 r0 = .bad q /\ Only (· = p.B) w w3 from ⟨by simp only [Ps.wBrackets, HE2.o, hb, Ps.O.bind_ok, Ps.O.bind_bad, eq_self, if_true, Bool.false_eq_true, if_false], HO2.o.trans ho⟩);clear hb ho;go_wp2_with fail;exact ⟨rfl, .inr ⟨_, HH.o.1, rfl, HH.o.2⟩⟩
 have HE3 := hid h1;have HX3 := hid (And.intro hx hok);have HL3 := hid h7;have HKx3a3 := hid (hk.lower HZ2.o);have HP3 := hid h4;have HO3 := hid (HO2.o.trans h5);have HZ3 := hid (Nat.le_trans HZ2.o (Only.size h5));have HB3 := hid (HB2.o.only h5 (by have := HN.o; omega));clear h1 hx hk h4 h5 hok h7;obtain ⟨va3, vc3, rfl⟩ := HKx3a3.o.slice;obtain ⟨V3, hV3⟩ : ∃ V, w3.alloc (.cells (ndA x3 (.slice va3 ks3.length vc3)) nT) = V := ⟨_, rfl⟩;have AI3 := hid (AppI.new (x := x3) HKx3a3.o HB3.o HN.o HP3.o HO3.o rfl hV3);have HV3 := hid hV3;clear hV3;go_wp2_with (rw [HV3.o]);refine (pskip_c Ps.kColon r3 _ AI3.out.pst (by decide +kernel)).mono ?_;rintro e w4 (⟨h1, rfl, h2, h3, h4⟩ | ⟨h1, rfl, h2, h3⟩);rotate_left
 ·have HE4 := hid h1;have AI4 := hid (AI3.out.call h3 h2);clear h1 h2 h3;go_wp2_with fail;refine (take_l [Ps.kShut] (ty := 9) AI4.out.pst (by first | rfl | simp) rfl rfl (by decide) (by decide +kernel)).mono ?_;rintro e w5 (⟨t5, r5, h1, h2, rfl, h4, h5, h6⟩ | ⟨q, hb, rfl, ho⟩);rotate_left
  ·have HH := hid (show (Ps.wBrackets F) t0 r0 = .bad q /\ Only (· = p.B) w w5 from ⟨by simp only [Ps.wBrackets, HE2.o, HE3.o, HE4.o, hb, Ps.O.bind_ok, Ps.O.bind_bad, eq_self, if_true, Bool.false_eq_true, if_false], AI4.out.only.trans ho⟩);clear hb ho;go_wp2_with fail;exact ⟨rfl, .inr ⟨_, HH.o.1, rfl, HH.o.2⟩⟩
  have HE5 := hid h1;have HL5 := hid (show r5.length + 1 = r3.length by rw [h2]; rfl);have AI5 := hid (AI4.out.call h5 h4);clear h1 h2 h4 h5 h6;obtain ⟨z0, z1, z2, z3, z4, z5⟩ := AI5.out.cells;obtain ⟨⟨y0, y1, y2, y3, y4, y5⟩, f0, f1, f2, f3, f4, f5⟩ := nd_six AI5.out.res;go_wp2_with fail;refine AI5.out.end (y := x3) (by rfl) rfl rfl ⟨rfl, rfl, rfl, rfl, rfl⟩ (by simp only [Ps.wBrackets, HE2.o, HE3.o, HE4.o, HE5.o, Ps.O.bind_ok, Ps.O.bind_bad, eq_self, if_true, Bool.false_eq_true, if_false]) HX3.o.1 HX3.o.2 ?_;have := HL3.o; have := HL5.o;rw [List.length_cons]; omega
 have HE4 := hid h1;have HL4 := hid h4;have AI4 := hid (AI3.out.call h3 h2);clear h1 h2 h3 h4;go_wp2_with fail;have HC4 := hid AI4.out.drew.cells;refine wp_region_till (S := (fun W => W.cell? ⟨w3.heap.size, 0, none⟩ = some (.int .i64 x3.kind) /\ W.cell? ⟨w3.heap.size, 1, none⟩ = some (.string x3.text) /\ W.cell? ⟨w3.heap.size, 2, none⟩ = some (.string x3.typ) /\ W.cell? ⟨w3.heap.size, 3, none⟩ = some (.string x3.frm) /\ W.cell? ⟨w3.heap.size, 4, none⟩ = some (.int .i64 x3.n) /\ W.cell? ⟨w3.heap.size, 5, none⟩ = some (.slice va3 ks3.length vc3))) 5 (by kernel_rfl) HC4.o (fun hHeld0 => ?_);refine nkT 0 ?_;refine nkT 2 ?_;refine wpAnyT_ready (rs := [1, 3]) (by kernel_rfl) (by simp) ?_;refine AllReadyT.cons rfl (fun K hK => ?_) (AllReadyT.cons rfl (fun K hK => ?_) AllReadyT.nil)
 ·go_simp;refine (ptyp_c _ _ AI4.out.drew.pst).mono ?_;rintro e w5 (⟨yy5, r5, h1, rfl, h4, h5, h6, h7⟩ | ⟨q, hb, rfl, ho⟩);rotate_left
  ·have HH := hid (show (Ps.wBrackets F) t0 r0 = .bad q /\ Only (· = p.B) w w5 from ⟨by simp only [Ps.wBrackets, HE2.o, HE3.o, HE4.o, hb, Ps.O.bind_ok, Ps.O.bind_bad, eq_self, if_true, Bool.false_eq_true, if_false], AI4.out.drew.only.trans ho⟩);clear hb ho;exact ⟨rfl, .inr ⟨_, HH.o.1, rfl, HH.o.2⟩⟩
  have HE5 := hid h1;have HT5 := hid h6;have HL5 := hid h7;have AI5 := hid (AI4.out.drew.call h5 h4);refine hK.out _ _ AI5.out.cells (fun hHeld1 => ?_);clear hK K;(try simp only [Act.put, aL])
  clear h1 h4 h5 h6 h7 hHeld0;refine r1T 3 (fun K hK => ?_);obtain ⟨W6, hW6⟩ : ∃ W6, w5.alloc (.cells (ndA x3 (.slice va3 ks3.length vc3)) nT) = W6 := ⟨_, rfl⟩;have HKR := hid (AI5.out.lit1 HX3.o.1 HX3.o.2);rw [hW6] at HKR;have AI6 := hid (AI5.out.kept (show Kept w5 W6 by rw [<- hW6]; exact (Kept.refl _).alloc _));have HW6 := hid hW6;clear hW6;go_simp;rw [HW6.o];refine hK.out _ _ AI6.out.cells (fun hHeld0 => ?_);clear hK K;refine nkT 4 ?_;obtain ⟨_, g0, g1, g2, g3, g4, g5⟩ := nd_six AI6.out.box;clear hHeld1 hHeld0;refine lTT (fun K hK => ?_);go_simp;refine hK.out _ _ ?_;clear hK K;(try simp only [Act.put, aL])
  refine wpAnyT_done (by kernel_rfl) ?_ _;have hai := AI6.out.put HKR.o.1 HKR.o.2 (Ps.nd 28 Ps.e0 yy5 0 [x3]);obtain ⟨W7, hW7⟩ : ∃ W7, put6n W6 w3.heap.size (Ps.nd 28 Ps.e0 yy5 0 [x3]) (.slice (some ⟨w5.heap.size, 0, none⟩) 1 1) = W7 := ⟨_, rfl⟩;rw [hW7] at hai;have AI7 := hid hai;have HW7 := hid (show (((((W6.setCell ⟨w3.heap.size, 0, none⟩ (.int .i64 28)).setCell ⟨w3.heap.size, 1, none⟩ (.string Ps.e0)).setCell ⟨w3.heap.size, 2, none⟩ (.string yy5)).setCell ⟨w3.heap.size, 3, none⟩ (.string Ps.e0)).setCell ⟨w3.heap.size, 4, none⟩ (.int .i64 0)).setCell ⟨w3.heap.size, 5, none⟩ (.slice (some ⟨w5.heap.size, 0, none⟩) 1 1) = W7 from hW7);clear hai hW7;rw [HW7.o];go_wp2_with fail;refine (take_l [Ps.kShut] (ty := 9) AI7.out.pst (by first | rfl | simp) rfl rfl (by decide) (by decide +kernel)).mono ?_;rintro e w8 (⟨t8, r8, h1, h2, rfl, h4, h5, h6⟩ | ⟨q, hb, rfl, ho⟩);rotate_left
  ·have HH := hid (show (Ps.wBrackets F) t0 r0 = .bad q /\ Only (· = p.B) w w8 from ⟨by simp only [Ps.wBrackets, HE2.o, HE3.o, HE4.o, HE5.o, hb, Ps.O.bind_ok, Ps.O.bind_bad, eq_self, if_true, Bool.false_eq_true, if_false], AI7.out.only.trans ho⟩);clear hb ho;go_wp2_with fail;exact ⟨rfl, .inr ⟨_, HH.o.1, rfl, HH.o.2⟩⟩
  have HE8 := hid h1;have HL8 := hid (show r8.length + 1 = r5.length by rw [h2]; rfl);have AI8 := hid (AI7.out.call h5 h4);clear h1 h2 h4 h5 h6;obtain ⟨⟨z0, z1, z2, z3, z4, z5⟩, _⟩ := nd_six AI8.out.box;obtain ⟨⟨y0, y1, y2, y3, y4, y5⟩, f0, f1, f2, f3, f4, f5⟩ := nd_six AI8.out.res;go_wp2_with fail;refine AI8.out.end (y := Ps.nd 28 Ps.e0 yy5 0 [x3]) (by rfl) rfl rfl ⟨rfl, rfl, rfl, rfl, rfl⟩ (by simp only [Ps.wBrackets, HE2.o, HE3.o, HE4.o, HE5.o, HE8.o, Ps.O.bind_ok, Ps.O.bind_bad, eq_self, if_true, Bool.false_eq_true, if_false]) rfl (nd_ok1 _ _ _ _ _ (by decide) e0_size HT5.o (by decide)) ?_;have := HL3.o; have := HL4.o; have := HL5.o; have := HL8.o;rw [count_nd, Nd.countL_cons, Nd.countL_nil, List.length_cons]; omega
 ·obtain ⟨W5, hW5⟩ : ∃ W5, (w4.alloc (.cells (ndA x3 (.slice va3 ks3.length vc3)) nT)).drew = W5 := ⟨_, rfl⟩;have HKQ := AI4.out.drew.lit1 HX3.o.1 HX3.o.2;rw [show w4.drew.alloc (.cells (ndA x3 (.slice va3 ks3.length vc3)) nT) = W5 from hW5] at HKQ;replace HKQ := hid (show KRowD (fun k => w.heap.size + 1 <= k /\ k ≠ w3.heap.size) (w.heap.size + 1) W5 (.slice (some ⟨w4.heap.size, 0, none⟩) 1 1) [(x3, .slice va3 ks3.length vc3)] /\ (Value.slice (some ⟨w4.heap.size, 0, none⟩) 1 1).ownBlock ≠ some w3.heap.size from HKQ);have AI5 := hid (AI4.out.drew.kept (show Kept w4.drew W5 by rw [<- hW5]; exact (show Kept w4.drew (w4.drew.alloc (.cells (ndA x3 (.slice va3 ks3.length vc3)) nT)) from (Kept.refl w4.drew).alloc _)));have HW5 := hid hW5;clear hW5;go_simp;rw [HW5.o];refine hK.out _ _ AI5.out.cells (fun hHeld1 => ?_);clear hK K;(try simp only [Act.put, aL])
  clear hHeld0;refine r1T 1 (fun K hK => ?_);go_simp;refine (ptyp_c _ _ AI5.out.pst).mono ?_;rintro e w5 (⟨yy5, r5, h1, rfl, h4, h5, h6, h7⟩ | ⟨q, hb, rfl, ho⟩);rotate_left
  ·have HH := hid (show (Ps.wBrackets F) t0 r0 = .bad q /\ Only (· = p.B) w w5 from ⟨by simp only [Ps.wBrackets, HE2.o, HE3.o, HE4.o, hb, Ps.O.bind_ok, Ps.O.bind_bad, eq_self, if_true, Bool.false_eq_true, if_false], AI5.out.only.trans ho⟩);clear hb ho;exact ⟨rfl, .inr ⟨_, HH.o.1, rfl, HH.o.2⟩⟩
  have HE5 := hid h1;have HT5 := hid h6;have HL5 := hid h7;obtain ⟨W6, hw6⟩ : ∃ W6, W6 = w5 := ⟨_, rfl⟩;have AI6 := hid (AI5.out.call h5 h4);have HKR := hid (And.intro (HKQ.o.1.call h5 (by have := HN.o; omega)) HKQ.o.2);rw [<- hw6] at AI6 HKR ⊢;clear hw6;refine hK.out _ _ AI6.out.cells (fun hHeld0 => ?_);clear hK K;clear h1 h4 h5 h6 h7;refine nkT 4 ?_;obtain ⟨_, g0, g1, g2, g3, g4, g5⟩ := nd_six AI6.out.box;clear hHeld1 hHeld0;refine lTT (fun K hK => ?_);go_simp;refine hK.out _ _ ?_;clear hK K;(try simp only [Act.put, aL])
  refine wpAnyT_done (by kernel_rfl) ?_ _;have hai := AI6.out.put HKR.o.1 HKR.o.2 (Ps.nd 28 Ps.e0 yy5 0 [x3]);obtain ⟨W7, hW7⟩ : ∃ W7, put6n W6 w3.heap.size (Ps.nd 28 Ps.e0 yy5 0 [x3]) (.slice (some ⟨w4.heap.size, 0, none⟩) 1 1) = W7 := ⟨_, rfl⟩;rw [hW7] at hai;have AI7 := hid hai;have HW7 := hid (show (((((W6.setCell ⟨w3.heap.size, 0, none⟩ (.int .i64 28)).setCell ⟨w3.heap.size, 1, none⟩ (.string Ps.e0)).setCell ⟨w3.heap.size, 2, none⟩ (.string yy5)).setCell ⟨w3.heap.size, 3, none⟩ (.string Ps.e0)).setCell ⟨w3.heap.size, 4, none⟩ (.int .i64 0)).setCell ⟨w3.heap.size, 5, none⟩ (.slice (some ⟨w4.heap.size, 0, none⟩) 1 1) = W7 from hW7);clear hai hW7;rw [HW7.o];go_wp2_with fail;refine (take_l [Ps.kShut] (ty := 9) AI7.out.pst (by first | rfl | simp) rfl rfl (by decide) (by decide +kernel)).mono ?_;rintro e w8 (⟨t8, r8, h1, h2, rfl, h4, h5, h6⟩ | ⟨q, hb, rfl, ho⟩);rotate_left
  ·have HH := hid (show (Ps.wBrackets F) t0 r0 = .bad q /\ Only (· = p.B) w w8 from ⟨by simp only [Ps.wBrackets, HE2.o, HE3.o, HE4.o, HE5.o, hb, Ps.O.bind_ok, Ps.O.bind_bad, eq_self, if_true, Bool.false_eq_true, if_false], AI7.out.only.trans ho⟩);clear hb ho;go_wp2_with fail;exact ⟨rfl, .inr ⟨_, HH.o.1, rfl, HH.o.2⟩⟩
  have HE8 := hid h1;have HL8 := hid (show r8.length + 1 = r5.length by rw [h2]; rfl);have AI8 := hid (AI7.out.call h5 h4);clear h1 h2 h4 h5 h6;obtain ⟨⟨z0, z1, z2, z3, z4, z5⟩, _⟩ := nd_six AI8.out.box;obtain ⟨⟨y0, y1, y2, y3, y4, y5⟩, f0, f1, f2, f3, f4, f5⟩ := nd_six AI8.out.res;go_wp2_with fail;refine AI8.out.end (y := Ps.nd 28 Ps.e0 yy5 0 [x3]) (by rfl) rfl rfl ⟨rfl, rfl, rfl, rfl, rfl⟩ (by simp only [Ps.wBrackets, HE2.o, HE3.o, HE4.o, HE5.o, HE8.o, Ps.O.bind_ok, Ps.O.bind_bad, eq_self, if_true, Bool.false_eq_true, if_false]) rfl (nd_ok1 _ _ _ _ _ (by decide) e0_size HT5.o (by decide)) ?_;have := HL3.o; have := HL4.o; have := HL5.o; have := HL8.o;rw [count_nd, Nd.countL_cons, Nd.countL_nil, List.length_cons]; omega
end
section
variable {p : PP} {F : Ps.Fam} {k : Nat}
theorem take_k {l : List Lx.T} {W : World} {g : Nat} {ty : TypeId} (k : ByteArray) (hp : Pst p l W) (hb : Blk W g ty #[.string k]) (he : Ps.mem [k] Ps.theEnd = false) :
  Calls Tryz.prog 45 #[.pointer (some ⟨p.B, 0, none⟩), .slice (some ⟨g, 0, none⟩) 1 1] W (TakePost p [k] l W) :=
 take_c (fun _ => True) [k] _ _ _ l _ hp rfl (LvR.lit [k] hb (short_len (by simp))) (Ps.mem_f.1 he)
structure PostI (p : PP) (F : Ps.Fam) (w : World) (gx : Nat) (o : O Nd) (n : Nat) (x : Nd) (va : Option Addr) (vc : Nat) (ks : List (Nd × Value)) (r : List Lx.T) (W : World) : Prop where
 app : AppI p w gx x (.slice va ks.length vc) ks r W
 kids : x.kids = ks.map (·.1)
 ok : x.ok1
 eq : ∃ K, r.length <= K /\ o = Ps.postLoop F K x r
 cnt : x.count + r.length <= n
def dotP (F : Ps.Fam) (x : Nd) (K : Nat) (t : Lx.T) (r : List Lx.T) : O Nd := if Ps.is [Ps.kOpen] r then (Ps.args F r).bind fun av r => Ps.postLoop F K (Ps.nd 19 t.text Ps.e0 0 (x :: av)) r else Ps.postLoop F K (Ps.nd 17 t.text Ps.e0 0 [x]) r
theorem PostI.out {w W : World} {gx n vc : Nat} {o : O Nd} {x : Nd} {va : Option Addr} {ks : List (Nd × Value)} {r : List Lx.T} (h : PostI p F w gx o n x va vc ks r W) (hi : Ps.is [Ps.kDot] r = false) : o = .ok x r := by
 obtain ⟨K, hK, e⟩ := h.eq
 cases K with
 | zero => exact absurd (List.eq_nil_of_length_eq_zero (by omega)) h.app.len.1
 | succ K => rw [e, Ps.postLoop, hi]; rfl
theorem PostI.dot {w W : World} {gx n vc : Nat} {o : O Nd} {x : Nd} {va : Option Addr} {ks : List (Nd × Value)} {r : List Lx.T} (h : PostI p F w gx o n x va vc ks r W) (hi : Ps.is [Ps.kDot] r = true) : ∃ K, r.length <= K + 1 /\ o = (Ps.take [Ps.aName] r.tail).bind (dotP F x K) := by
 obtain ⟨K, hK, e⟩ := h.eq
 cases K with
 | zero => exact absurd (List.eq_nil_of_length_eq_zero (by omega)) h.app.len.1
 | succ K => exact ⟨K, hK, by rw [e, Ps.postLoop, if_pos hi]; rfl⟩
theorem post_c (hF : FamC p F k) (hW : Ways p F k) (l : List Lx.T) (w : World) (hk : l.length <= k + 1) (hp : Pst p l w) : Calls Tryz.prog 190 #[.pointer (some ⟨p.B, 0, none⟩)] w (NodePost p l (Ps.post F l) w) := by
 obtain ⟨W0, hW0⟩ : ∃ W0, w.alloc (.cells pzN nT) = W0 := ⟨_, rfl⟩;have k0 := kpA hW0;have HZ0 := hid (szA hW0);have HB0 := hid (bkA hW0);have HP0 := hid (hp.kept k0);have HN := hid hp.lt;have HO0 := hid (show Only (· = p.B) w W0 from Only.of_kept k0);have HKM := hid (show l.length <= 30000 from hp.len);have HW0 := hid hW0;have HKL := hid hk;clear hp k0 hW0 hk;have hf1 := field_tok1;have hf2 := field_tok2;go_enter Tryz.func190, Tryz.ntmps190;go_wp2_with (rw [HW0.o]);refine (prim_c hW l _ HKL.o HP0.o).mono ?_;rintro e w1 (⟨x1, ks1, r1, v1, h1, rfl, hx, hk, h4, h5, hok, h7⟩ | ⟨q, hb, rfl, ho⟩);rotate_left
 ·have HH := hid (show Ps.post F l = .bad q /\ Only (· = p.B) w w1 from ⟨by simp only [Ps.post, hb, Ps.O.bind_ok, Ps.O.bind_bad, eq_self, if_true, Bool.false_eq_true, if_false], HO0.o.trans ho⟩);clear hb ho;go_wp2_with fail;exact ⟨rfl, .inr ⟨_, HH.o.1, rfl, HH.o.2⟩⟩
 obtain ⟨va1, vc1, rfl⟩ := hk.slice;have HKx := hid (hk.lower HZ0.o);have HB1 := hid (HB0.o.only h5 (by have := HN.o; omega));obtain ⟨V1, hV1⟩ : ∃ V, w1.alloc (.cells (ndA x1 (.slice va1 ks1.length vc1)) nT) = V := ⟨_, rfl⟩;have HM1 := hid (show PostI p F w w1.heap.size (Ps.post F l) l.length x1 va1 vc1 ks1 r1 V1 from ⟨AppI.new (x := x1) HKx.o HB1.o HN.o h4 (HO0.o.trans h5) rfl hV1, hx, hok, ⟨_, Nat.le_refl _, by simp only [Ps.post, h1, Ps.O.bind_ok]⟩, h7⟩);have HV1 := hid hV1;clear h1 hx hk h4 h5 hok h7 hV1;go_wp2_with (rw [HV1.o]);go_loopw [] (fun wr => ∃ x ks r va vc, Hid (PostI p F w w1.heap.size (Ps.post F l) l.length x va vc ks r wr)) (fun wr => ahead p wr)
 case atStart => exact ⟨_, _, _, _, _, HM1⟩
 case round =>
  obtain ⟨x2, ks2, r2, va2, vc2, HR2⟩ := hrel;have AR2 := hid HR2.o.app;have HAH2 := hid AR2.out.pst.ahead;have HC2 := hid HR2.o.cnt;have HX2 := hid (And.intro HR2.o.kids HR2.o.ok);go_wp2_with fail;refine (pskip_c Ps.kDot r2 _ AR2.out.pst (by decide +kernel)).mono ?_;rintro e w3 (⟨h1, rfl, h2, h3, h4⟩ | ⟨h1, rfl, h2, h3⟩);rotate_left
  ·have HE3 := hid (HR2.o.out h1);have AI3 := hid (AR2.out.call h3 h2);clear h1 h2 h3;obtain ⟨z0, z1, z2, z3, z4, z5⟩ := AI3.out.cells;obtain ⟨⟨y0, y1, y2, y3, y4, y5⟩, f0, f1, f2, f3, f4, f5⟩ := nd_six AI3.out.res;go_wp2_with fail;exact AI3.out.end (y := x2) (by rfl) rfl rfl ⟨rfl, rfl, rfl, rfl, rfl⟩ HE3.o HX2.o.1 HX2.o.2 HC2.o
  obtain ⟨K, hK, hKe⟩ := HR2.o.dot h1;have HK3 := hid hK;have HE3 := hid hKe;have HL3 := hid h4;have AI3 := hid (AR2.out.call h3 h2);clear h1 h2 h3 h4 hK hKe;go_wp2_with fail;obtain ⟨D3, hD3⟩ : ∃ D, w3.drew = D := ⟨_, rfl⟩;have AD3 := hid (show AppI p w w1.heap.size x2 (.slice va2 ks2.length vc2) ks2 r2.tail D3 by rw [<- hD3]; exact AI3.out.drew);have HD3 := hid hD3;have HS3 := hid (show _ from (AD3.out.cells));rw [<- HD3.o] at HS3;clear hD3;refine wp_region_till (S := (fun W => W.cell? ⟨w1.heap.size, 0, none⟩ = some (.int .i64 x2.kind) /\ W.cell? ⟨w1.heap.size, 1, none⟩ = some (.string x2.text) /\ W.cell? ⟨w1.heap.size, 2, none⟩ = some (.string x2.typ) /\ W.cell? ⟨w1.heap.size, 3, none⟩ = some (.string x2.frm) /\ W.cell? ⟨w1.heap.size, 4, none⟩ = some (.int .i64 x2.n) /\ W.cell? ⟨w1.heap.size, 5, none⟩ = some (.slice va2 ks2.length vc2))) 7 (by kernel_rfl) HS3.o (fun hHeld0 => ?_);rw [HD3.o] at hHeld0 ⊢;refine nkT 0 ?_;refine nkT 4 ?_;refine wpAnyT_ready (rs := [1, 5]) (by kernel_rfl) (by simp) ?_;refine AllReadyT.cons rfl (fun K hK => ?_) (AllReadyT.cons rfl (fun K hK => ?_) AllReadyT.nil)
  ·obtain ⟨M1, hM1⟩ : ∃ M, D3.alloc (.cells #[.string Ps.aName] 9) = M := ⟨_, rfl⟩;have kM1 := kpA hM1;have HBS := hid (bkA hM1);have AIM1 := hid (AD3.out.kept kM1);have HHM1 := hid hM1;clear hM1 kM1;go_simp;rw [HHM1.o];refine hK.out _ _ AIM1.out.cells (fun hHeld1 => ?_);clear hK K;(try simp only [Act.put, aL])
   clear hHeld0;refine wpAnyT_ready (rs := [2, 5]) (by kernel_rfl) (by simp) ?_;refine AllReadyT.cons rfl (fun K hK => ?_) (AllReadyT.cons rfl (fun K hK => ?_) AllReadyT.nil)
   ·go_simp;refine (take_k Ps.aName AIM1.out.pst HBS.o (by decide +kernel)).mono ?_;rintro e w4 (⟨t4, r4, h1, h2, rfl, h4, h5, h6⟩ | ⟨q, hb, rfl, ho⟩);rotate_left
    ·have HH := hid (show Ps.post F l = .bad q /\ Only (· = p.B) w w4 from ⟨by simp only [HE3.o, hb, Ps.O.bind_ok, Ps.O.bind_bad, eq_self, if_true, Bool.false_eq_true, if_false], AIM1.out.only.trans ho⟩);clear hb ho;exact ⟨rfl, .inr ⟨_, HH.o.1, rfl, HH.o.2⟩⟩
    have HE4 := hid h1;have HT4 := hid h6;have HL4 := hid (show r4.length + 1 = r2.tail.length by rw [h2]; rfl);have AI4 := hid (AIM1.out.call h5 h4);refine hK.out _ _ AI4.out.cells (fun hHeld2 => ?_);clear hK K;clear h1 h2 h4 h5 h6 hHeld1;refine nkT 3 ?_;refine r1T 5 (fun K hK => ?_);obtain ⟨M3, hM3⟩ : ∃ M, w4.alloc (.cells (ndA x2 (.slice va2 ks2.length vc2)) nT) = M := ⟨_, rfl⟩;have kM3 := kpA hM3;have HKR := hid (AI4.out.lit1 HX2.o.1 HX2.o.2);rw [hM3] at HKR;have AIM3 := hid (AI4.out.kept kM3);have HHM3 := hid hM3;clear hM3 kM3;go_simp;rw [HHM3.o];refine hK.out _ _ AIM3.out.cells (fun hHeld3 => ?_);clear hK K;clear hHeld2;refine nkT 6 ?_;obtain ⟨_, g0, g1, g2, g3, g4, g5⟩ := nd_six AIM3.out.box;clear hHeld3;refine lTT (fun K hK => ?_);go_simp;refine hK.out _ _ ?_;clear hK K;(try simp only [Act.put, aL])
    refine wpAnyT_done (by kernel_rfl) ?_ _;clear g0 g1 g2 g3 g4 g5;have hai := AIM3.out.put HKR.o.1 HKR.o.2 (Ps.nd 17 t4.text Ps.e0 0 [x2]);obtain ⟨W7, hW7⟩ : ∃ W7, put6n M3 w1.heap.size (Ps.nd 17 t4.text Ps.e0 0 [x2]) (.slice (some ⟨w4.heap.size, 0, none⟩) 1 1) = W7 := ⟨_, rfl⟩;rw [hW7] at hai;have AI7 := hid hai;have HW7 := hid (show (((((M3.setCell ⟨w1.heap.size, 0, none⟩ (.int .i64 17)).setCell ⟨w1.heap.size, 1, none⟩ (.string t4.text)).setCell ⟨w1.heap.size, 2, none⟩ (.string Ps.e0)).setCell ⟨w1.heap.size, 3, none⟩ (.string Ps.e0)).setCell ⟨w1.heap.size, 4, none⟩ (.int .i64 0)).setCell ⟨w1.heap.size, 5, none⟩ (.slice (some ⟨w4.heap.size, 0, none⟩) 1 1) = W7 from hW7);clear hai hW7;rw [HW7.o];go_wp2_with fail;refine (is_l [Ps.kOpen] (ty := 9) AI7.out.pst rfl rfl rfl (by decide)).mono ?_;rintro e w8 ⟨he, k8⟩;have AI8 := hid (AI7.out.kept k8)
    cases hi : Ps.is [Ps.kOpen] r4 with
    | false =>
     rw [hi] at he;subst he;have HM2 := hid (show PostI p F w w1.heap.size (Ps.post F l) l.length (Ps.nd 17 t4.text Ps.e0 0 [x2]) (some ⟨w4.heap.size, 0, none⟩) 1 [(x2, .slice va2 ks2.length vc2)] r4 w8 from ⟨AI8.out, rfl, nd_ok1 _ _ _ _ _ (by decide) HT4.o.2.1 e0_size (by decide), ⟨K, by have := HK3.o; have := HL3.o; have := HL4.o; omega, by
      rw [HE3.o, HE4.o, Ps.O.bind_ok, dotP, hi]; rfl⟩, by
      rw [count_nd, Nd.countL_cons, Nd.countL_nil]; have := HC2.o; have := HL3.o; have := HL4.o; omega⟩)
     clear hi k8;go_wp2_with fail;go_roundw
     case rel => exact ⟨_, _, _, _, _, HM2⟩
     case measure =>
      have h1 := HM2.o.app.pst.ahead;have h2 := HAH2.o;have h3 := HL3.o;have h4 := HL4.o;rw [h1, h2]; omega
    | true =>
     rw [hi] at he;subst he;have HI8 := hid hi;clear hi k8;obtain ⟨⟨z0, z1, z2, z3, z4, z5⟩, g0, g1, g2, g3, g4, g5⟩ := nd_six AI8.out.box;have hai := AI8.out.setKind (x' := Ps.nd 19 t4.text Ps.e0 0 [x2]) ⟨rfl, rfl, rfl, rfl⟩;obtain ⟨W9, hW9⟩ : ∃ W9, w8.setCell ⟨w1.heap.size, 0, none⟩ (.int .i64 19) = W9 := ⟨_, rfl⟩;rw [show w8.setCell ⟨w1.heap.size, 0, none⟩ (.int .i64 (Ps.nd 19 t4.text Ps.e0 0 [x2]).kind) = W9 from hW9] at hai;have AI9 := hid hai;have HW9 := hid hW9;clear hai hW9;go_wp2_with (rw [HW9.o]);clear z0 z1 z2 z3 z4 z5 g0 g1 g2 g3 g4 g5;refine wp_region_till (S := (fun W => W.cell? ⟨w1.heap.size, 5, none⟩ = some (.slice (some ⟨w4.heap.size, 0, none⟩) 1 1))) 6 (by kernel_rfl) (AI9.out.drew.cell5) (fun hHeld0 => ?_);refine nkT 0 ?_;refine nkT 1 ?_;refine nkT 2 ?_;refine r1T 3 (fun K hK => ?_);go_simp;refine (args_c hF r4 _ (by have := HKL.o; have := HC2.o; have := HL3.o; have := HL4.o; omega) AI9.out.drew.pst).mono ?_;rintro e w10 (⟨ks10, r10, v10, h1, rfl, hk, h4, h5, h7⟩ | ⟨q, hb, rfl, ho⟩);rotate_left
     ·have HH := hid (show Ps.post F l = .bad q /\ Only (· = p.B) w w10 from ⟨by rw [HE3.o, HE4.o, Ps.O.bind_ok, dotP, if_pos HI8.o, hb]; rfl, AI9.out.drew.only.trans ho⟩);clear hb ho;exact ⟨rfl, .inr ⟨_, HH.o.1, rfl, HH.o.2⟩⟩
     have HE10 := hid h1;have HL10 := hid h7;have AI10 := hid (AI9.out.drew.call h5 h4);obtain ⟨va10, vc10, rfl⟩ := hk.slice;obtain ⟨_, _, _, _, hs10⟩ := hk.src;have HS10 := hid hs10;have H210 := hid (KRowD.behind AI9.out.drew.row hk (Nat.le_refl _) (fun k hk => ⟨Nat.le_trans AI9.out.drew.size hk, by have := AI9.out.drew.box.lt; omega⟩));have HM := hid (show ks10.length <= 50000 by have := map_fst_len ks10; have := HL10.o; have := HKM.o; have := HC2.o; have := HL3.o; have := HL4.o; omega);refine hK.out _ _ AI10.out.cell5 (fun hHeld1 => ?_);clear hK K;(try simp only [Act.put, aL])
     clear h1 hk h4 h5 h7 hs10 hHeld0;refine r1T 4 (fun K hK => ?_);refine step_nd (k2 := ks10) (.tmp 20) (.tmp 22) rfl rfl rfl AI10.out.row rfl HS10.o H210.o AI10.out.size (by have := HM.o; simp; omega) ?_;intro ka kc wa hr ho hl;obtain ⟨q0, q1, q2⟩ := AI10.out.more hr ho hl;refine hK.out _ _ q0 (fun hHeld2 => ?_);clear hK K;refine nkT 5 ?_;clear hr ho hl hHeld1 hHeld2;refine lTT (fun K hK => ?_);go_simp;refine hK.out _ _ ?_;clear hK K;(try simp only [Act.put, aL])
     refine wpAnyT_done (by kernel_rfl) ?_ _;obtain ⟨W11, hW11⟩ : ∃ W11, wa.setCell ⟨w1.heap.size, 5, none⟩ (.slice ka (1 + ks10.length) kc) = W11 := ⟨_, rfl⟩;rw [show wa.setCell ⟨w1.heap.size, 5, none⟩ (.slice ka ([(x2, Value.slice va2 ks2.length vc2)].length + ks10.length) kc) = W11 from hW11] at q2;have hq2 : AppI p w w1.heap.size (Ps.nd 19 t4.text Ps.e0 0 (x2 :: ks10.map (·.1))) (.slice ka ((x2, Value.slice va2 ks2.length vc2) :: ks10).length kc) ((x2, .slice va2 ks2.length vc2) :: ks10) r10 W11 := by
      have e : ((x2, Value.slice va2 ks2.length vc2) :: ks10).length = [(x2, Value.slice va2 ks2.length vc2)].length + ks10.length := by simp; omega
      rw [e];exact ⟨q2.box, q2.row, q2.ne, q2.res, q2.gx, q2.pst, q2.only⟩
     have HM2 := hid (show PostI p F w w1.heap.size (Ps.post F l) l.length (Ps.nd 19 t4.text Ps.e0 0 (x2 :: ks10.map (·.1))) ka kc ((x2, .slice va2 ks2.length vc2) :: ks10) r10 W11 from ⟨hq2, rfl, nd_ok1 _ _ _ _ _ (by decide) HT4.o.2.1 e0_size (by decide), ⟨K, by have := HK3.o; have := HL3.o; have := HL4.o; have := HL10.o; omega, by
      rw [HE3.o, HE4.o, Ps.O.bind_ok, dotP, if_pos HI8.o, HE10.o]; rfl⟩, by
      rw [count_nd, Nd.countL_cons]; have := HC2.o; have := HL3.o; have := HL4.o; have := HL10.o; omega⟩)
     have HW11 := hid hW11;clear hq2 q0 q1 q2 hW11;rw [HW11.o];go_wp2_with fail;go_roundw
     case rel => exact ⟨_, _, _, _, _, HM2⟩
     case measure =>
      have h1 := HM2.o.app.pst.ahead;have h2 := HAH2.o;have h3 := HL3.o;have h4 := HL4.o;have h5 := HL10.o;rw [h1, h2]; omega
   ·obtain ⟨M2, hM2⟩ : ∃ M, M1.alloc (.cells (ndA x2 (.slice va2 ks2.length vc2)) nT) = M := ⟨_, rfl⟩;have kM2 := kpA hM2;have HKR := hid (AIM1.out.lit1 HX2.o.1 HX2.o.2);rw [hM2] at HKR;replace HBS := hid (HBS.o.kept kM2);have AIM2 := hid (AIM1.out.kept kM2);have HHM2 := hid hM2;clear hM2 kM2;go_simp;rw [HHM2.o];refine hK.out _ _ AIM2.out.cells (fun hHeld2 => ?_);clear hK K;(try simp only [Act.put, aL])
    clear hHeld1;refine r1T 2 (fun K hK => ?_);go_simp;refine (take_k Ps.aName AIM2.out.pst HBS.o (by decide +kernel)).mono ?_;rintro e w4 (⟨t4, r4, h1, h2, rfl, h4, h5, h6⟩ | ⟨q, hb, rfl, ho⟩);rotate_left
    ·have HH := hid (show Ps.post F l = .bad q /\ Only (· = p.B) w w4 from ⟨by simp only [HE3.o, hb, Ps.O.bind_ok, Ps.O.bind_bad, eq_self, if_true, Bool.false_eq_true, if_false], AIM2.out.only.trans ho⟩);clear hb ho;exact ⟨rfl, .inr ⟨_, HH.o.1, rfl, HH.o.2⟩⟩
    have HE4 := hid h1;have HT4 := hid h6;have HL4 := hid (show r4.length + 1 = r2.tail.length by rw [h2]; rfl);have AI4 := hid (AIM2.out.call h5 h4);replace HKR := hid (And.intro (HKR.o.1.call h5 (by have := HN.o; omega)) HKR.o.2);refine hK.out _ _ AI4.out.cells (fun hHeld3 => ?_);clear hK K;clear h1 h2 h4 h5 h6 hHeld2;refine nkT 3 ?_;refine nkT 6 ?_;obtain ⟨_, g0, g1, g2, g3, g4, g5⟩ := nd_six AI4.out.box;clear hHeld3;refine lTT (fun K hK => ?_);go_simp;refine hK.out _ _ ?_;clear hK K;(try simp only [Act.put, aL])
    refine wpAnyT_done (by kernel_rfl) ?_ _;clear g0 g1 g2 g3 g4 g5;have hai := AI4.out.put HKR.o.1 HKR.o.2 (Ps.nd 17 t4.text Ps.e0 0 [x2]);obtain ⟨W7, hW7⟩ : ∃ W7, put6n w4 w1.heap.size (Ps.nd 17 t4.text Ps.e0 0 [x2]) (.slice (some ⟨M1.heap.size, 0, none⟩) 1 1) = W7 := ⟨_, rfl⟩;rw [hW7] at hai;have AI7 := hid hai;have HW7 := hid (show (((((w4.setCell ⟨w1.heap.size, 0, none⟩ (.int .i64 17)).setCell ⟨w1.heap.size, 1, none⟩ (.string t4.text)).setCell ⟨w1.heap.size, 2, none⟩ (.string Ps.e0)).setCell ⟨w1.heap.size, 3, none⟩ (.string Ps.e0)).setCell ⟨w1.heap.size, 4, none⟩ (.int .i64 0)).setCell ⟨w1.heap.size, 5, none⟩ (.slice (some ⟨M1.heap.size, 0, none⟩) 1 1) = W7 from hW7);clear hai hW7;rw [HW7.o];go_wp2_with fail;refine (is_l [Ps.kOpen] (ty := 9) AI7.out.pst rfl rfl rfl (by decide)).mono ?_;rintro e w8 ⟨he, k8⟩;have AI8 := hid (AI7.out.kept k8)
    cases hi : Ps.is [Ps.kOpen] r4 with
    | false =>
     rw [hi] at he;subst he;have HM2 := hid (show PostI p F w w1.heap.size (Ps.post F l) l.length (Ps.nd 17 t4.text Ps.e0 0 [x2]) (some ⟨M1.heap.size, 0, none⟩) 1 [(x2, .slice va2 ks2.length vc2)] r4 w8 from ⟨AI8.out, rfl, nd_ok1 _ _ _ _ _ (by decide) HT4.o.2.1 e0_size (by decide), ⟨K, by have := HK3.o; have := HL3.o; have := HL4.o; omega, by
      rw [HE3.o, HE4.o, Ps.O.bind_ok, dotP, hi]; rfl⟩, by
      rw [count_nd, Nd.countL_cons, Nd.countL_nil]; have := HC2.o; have := HL3.o; have := HL4.o; omega⟩)
     clear hi k8;go_wp2_with fail;go_roundw
     case rel => exact ⟨_, _, _, _, _, HM2⟩
     case measure =>
      have h1 := HM2.o.app.pst.ahead;have h2 := HAH2.o;have h3 := HL3.o;have h4 := HL4.o;rw [h1, h2]; omega
    | true =>
     rw [hi] at he;subst he;have HI8 := hid hi;clear hi k8;obtain ⟨⟨z0, z1, z2, z3, z4, z5⟩, g0, g1, g2, g3, g4, g5⟩ := nd_six AI8.out.box;have hai := AI8.out.setKind (x' := Ps.nd 19 t4.text Ps.e0 0 [x2]) ⟨rfl, rfl, rfl, rfl⟩;obtain ⟨W9, hW9⟩ : ∃ W9, w8.setCell ⟨w1.heap.size, 0, none⟩ (.int .i64 19) = W9 := ⟨_, rfl⟩;rw [show w8.setCell ⟨w1.heap.size, 0, none⟩ (.int .i64 (Ps.nd 19 t4.text Ps.e0 0 [x2]).kind) = W9 from hW9] at hai;have AI9 := hid hai;have HW9 := hid hW9;clear hai hW9;go_wp2_with (rw [HW9.o]);clear z0 z1 z2 z3 z4 z5 g0 g1 g2 g3 g4 g5;refine wp_region_till (S := (fun W => W.cell? ⟨w1.heap.size, 5, none⟩ = some (.slice (some ⟨M1.heap.size, 0, none⟩) 1 1))) 6 (by kernel_rfl) (AI9.out.drew.cell5) (fun hHeld0 => ?_);refine nkT 0 ?_;refine nkT 1 ?_;refine nkT 2 ?_;refine r1T 3 (fun K hK => ?_);go_simp;refine (args_c hF r4 _ (by have := HKL.o; have := HC2.o; have := HL3.o; have := HL4.o; omega) AI9.out.drew.pst).mono ?_;rintro e w10 (⟨ks10, r10, v10, h1, rfl, hk, h4, h5, h7⟩ | ⟨q, hb, rfl, ho⟩);rotate_left
     ·have HH := hid (show Ps.post F l = .bad q /\ Only (· = p.B) w w10 from ⟨by rw [HE3.o, HE4.o, Ps.O.bind_ok, dotP, if_pos HI8.o, hb]; rfl, AI9.out.drew.only.trans ho⟩);clear hb ho;exact ⟨rfl, .inr ⟨_, HH.o.1, rfl, HH.o.2⟩⟩
     have HE10 := hid h1;have HL10 := hid h7;have AI10 := hid (AI9.out.drew.call h5 h4);obtain ⟨va10, vc10, rfl⟩ := hk.slice;obtain ⟨_, _, _, _, hs10⟩ := hk.src;have HS10 := hid hs10;have H210 := hid (KRowD.behind AI9.out.drew.row hk (Nat.le_refl _) (fun k hk => ⟨Nat.le_trans AI9.out.drew.size hk, by have := AI9.out.drew.box.lt; omega⟩));have HM := hid (show ks10.length <= 50000 by have := map_fst_len ks10; have := HL10.o; have := HKM.o; have := HC2.o; have := HL3.o; have := HL4.o; omega);refine hK.out _ _ AI10.out.cell5 (fun hHeld1 => ?_);clear hK K;(try simp only [Act.put, aL])
     clear h1 hk h4 h5 h7 hs10 hHeld0;refine r1T 4 (fun K hK => ?_);refine step_nd (k2 := ks10) (.tmp 20) (.tmp 22) rfl rfl rfl AI10.out.row rfl HS10.o H210.o AI10.out.size (by have := HM.o; simp; omega) ?_;intro ka kc wa hr ho hl;obtain ⟨q0, q1, q2⟩ := AI10.out.more hr ho hl;refine hK.out _ _ q0 (fun hHeld2 => ?_);clear hK K;refine nkT 5 ?_;clear hr ho hl hHeld1 hHeld2;refine lTT (fun K hK => ?_);go_simp;refine hK.out _ _ ?_;clear hK K;(try simp only [Act.put, aL])
     refine wpAnyT_done (by kernel_rfl) ?_ _;obtain ⟨W11, hW11⟩ : ∃ W11, wa.setCell ⟨w1.heap.size, 5, none⟩ (.slice ka (1 + ks10.length) kc) = W11 := ⟨_, rfl⟩;rw [show wa.setCell ⟨w1.heap.size, 5, none⟩ (.slice ka ([(x2, Value.slice va2 ks2.length vc2)].length + ks10.length) kc) = W11 from hW11] at q2;have hq2 : AppI p w w1.heap.size (Ps.nd 19 t4.text Ps.e0 0 (x2 :: ks10.map (·.1))) (.slice ka ((x2, Value.slice va2 ks2.length vc2) :: ks10).length kc) ((x2, .slice va2 ks2.length vc2) :: ks10) r10 W11 := by
      have e : ((x2, Value.slice va2 ks2.length vc2) :: ks10).length = [(x2, Value.slice va2 ks2.length vc2)].length + ks10.length := by simp; omega
      rw [e];exact ⟨q2.box, q2.row, q2.ne, q2.res, q2.gx, q2.pst, q2.only⟩
     have HM2 := hid (show PostI p F w w1.heap.size (Ps.post F l) l.length (Ps.nd 19 t4.text Ps.e0 0 (x2 :: ks10.map (·.1))) ka kc ((x2, .slice va2 ks2.length vc2) :: ks10) r10 W11 from ⟨hq2, rfl, nd_ok1 _ _ _ _ _ (by decide) HT4.o.2.1 e0_size (by decide), ⟨K, by have := HK3.o; have := HL3.o; have := HL4.o; have := HL10.o; omega, by
      rw [HE3.o, HE4.o, Ps.O.bind_ok, dotP, if_pos HI8.o, HE10.o]; rfl⟩, by
      rw [count_nd, Nd.countL_cons]; have := HC2.o; have := HL3.o; have := HL4.o; have := HL10.o; omega⟩)
     have HW11 := hid hW11;clear hq2 q0 q1 q2 hW11;rw [HW11.o];go_wp2_with fail;go_roundw
     case rel => exact ⟨_, _, _, _, _, HM2⟩
     case measure =>
      have h1 := HM2.o.app.pst.ahead;have h2 := HAH2.o;have h3 := HL3.o;have h4 := HL4.o;have h5 := HL10.o;rw [h1, h2]; omega
  ·obtain ⟨M1, hM1⟩ : ∃ M, D3.alloc (.cells (ndA x2 (.slice va2 ks2.length vc2)) nT) = M := ⟨_, rfl⟩;have kM1 := kpA hM1;have HKR := hid (AD3.out.lit1 HX2.o.1 HX2.o.2);rw [hM1] at HKR;have AIM1 := hid (AD3.out.kept kM1);have HHM1 := hid hM1;clear hM1 kM1;go_simp;rw [HHM1.o];refine hK.out _ _ AIM1.out.cells (fun hHeld1 => ?_);clear hK K;(try simp only [Act.put, aL])
   clear hHeld0;refine r1T 1 (fun K hK => ?_);obtain ⟨M2, hM2⟩ : ∃ M, M1.alloc (.cells #[.string Ps.aName] 9) = M := ⟨_, rfl⟩;have kM2 := kpA hM2;have HBS := hid (bkA hM2);replace HKR := hid (And.intro (KRowD.only (S := fun _ => False) HKR.o.1 (Only.of_kept kM2) (fun _ _ h => h) (fun _ _ h => h)) HKR.o.2);have AIM2 := hid (AIM1.out.kept kM2);have HHM2 := hid hM2;clear hM2 kM2;go_simp;rw [HHM2.o];refine hK.out _ _ AIM2.out.cells (fun hHeld2 => ?_);clear hK K;(try simp only [Act.put, aL])
   clear hHeld1;refine r1T 2 (fun K hK => ?_);go_simp;refine (take_k Ps.aName AIM2.out.pst HBS.o (by decide +kernel)).mono ?_;rintro e w4 (⟨t4, r4, h1, h2, rfl, h4, h5, h6⟩ | ⟨q, hb, rfl, ho⟩);rotate_left
   ·have HH := hid (show Ps.post F l = .bad q /\ Only (· = p.B) w w4 from ⟨by simp only [HE3.o, hb, Ps.O.bind_ok, Ps.O.bind_bad, eq_self, if_true, Bool.false_eq_true, if_false], AIM2.out.only.trans ho⟩);clear hb ho;exact ⟨rfl, .inr ⟨_, HH.o.1, rfl, HH.o.2⟩⟩
   have HE4 := hid h1;have HT4 := hid h6;have HL4 := hid (show r4.length + 1 = r2.tail.length by rw [h2]; rfl);have AI4 := hid (AIM2.out.call h5 h4);replace HKR := hid (And.intro (HKR.o.1.call h5 (by have := HN.o; omega)) HKR.o.2);refine hK.out _ _ AI4.out.cells (fun hHeld3 => ?_);clear hK K;clear h1 h2 h4 h5 h6 hHeld2;refine nkT 3 ?_;refine nkT 6 ?_;obtain ⟨_, g0, g1, g2, g3, g4, g5⟩ := nd_six AI4.out.box;clear hHeld3;refine lTT (fun K hK => ?_);go_simp;refine hK.out _ _ ?_;clear hK K;(try simp only [Act.put, aL])
   refine wpAnyT_done (by kernel_rfl) ?_ _;clear g0 g1 g2 g3 g4 g5;have hai := AI4.out.put HKR.o.1 HKR.o.2 (Ps.nd 17 t4.text Ps.e0 0 [x2]);obtain ⟨W7, hW7⟩ : ∃ W7, put6n w4 w1.heap.size (Ps.nd 17 t4.text Ps.e0 0 [x2]) (.slice (some ⟨D3.heap.size, 0, none⟩) 1 1) = W7 := ⟨_, rfl⟩;rw [hW7] at hai;have AI7 := hid hai;have HW7 := hid (show (((((w4.setCell ⟨w1.heap.size, 0, none⟩ (.int .i64 17)).setCell ⟨w1.heap.size, 1, none⟩ (.string t4.text)).setCell ⟨w1.heap.size, 2, none⟩ (.string Ps.e0)).setCell ⟨w1.heap.size, 3, none⟩ (.string Ps.e0)).setCell ⟨w1.heap.size, 4, none⟩ (.int .i64 0)).setCell ⟨w1.heap.size, 5, none⟩ (.slice (some ⟨D3.heap.size, 0, none⟩) 1 1) = W7 from hW7);clear hai hW7;rw [HW7.o];go_wp2_with fail;refine (is_l [Ps.kOpen] (ty := 9) AI7.out.pst rfl rfl rfl (by decide)).mono ?_;rintro e w8 ⟨he, k8⟩;have AI8 := hid (AI7.out.kept k8)
   cases hi : Ps.is [Ps.kOpen] r4 with
   | false =>
    rw [hi] at he;subst he;have HM2 := hid (show PostI p F w w1.heap.size (Ps.post F l) l.length (Ps.nd 17 t4.text Ps.e0 0 [x2]) (some ⟨D3.heap.size, 0, none⟩) 1 [(x2, .slice va2 ks2.length vc2)] r4 w8 from ⟨AI8.out, rfl, nd_ok1 _ _ _ _ _ (by decide) HT4.o.2.1 e0_size (by decide), ⟨K, by have := HK3.o; have := HL3.o; have := HL4.o; omega, by
     rw [HE3.o, HE4.o, Ps.O.bind_ok, dotP, hi]; rfl⟩, by
     rw [count_nd, Nd.countL_cons, Nd.countL_nil]; have := HC2.o; have := HL3.o; have := HL4.o; omega⟩)
    clear hi k8;go_wp2_with fail;go_roundw
    case rel => exact ⟨_, _, _, _, _, HM2⟩
    case measure =>
     have h1 := HM2.o.app.pst.ahead;have h2 := HAH2.o;have h3 := HL3.o;have h4 := HL4.o;rw [h1, h2]; omega
   | true =>
    rw [hi] at he;subst he;have HI8 := hid hi;clear hi k8;obtain ⟨⟨z0, z1, z2, z3, z4, z5⟩, g0, g1, g2, g3, g4, g5⟩ := nd_six AI8.out.box;have hai := AI8.out.setKind (x' := Ps.nd 19 t4.text Ps.e0 0 [x2]) ⟨rfl, rfl, rfl, rfl⟩;obtain ⟨W9, hW9⟩ : ∃ W9, w8.setCell ⟨w1.heap.size, 0, none⟩ (.int .i64 19) = W9 := ⟨_, rfl⟩;rw [show w8.setCell ⟨w1.heap.size, 0, none⟩ (.int .i64 (Ps.nd 19 t4.text Ps.e0 0 [x2]).kind) = W9 from hW9] at hai;have AI9 := hid hai;have HW9 := hid hW9;clear hai hW9;go_wp2_with (rw [HW9.o]);clear z0 z1 z2 z3 z4 z5 g0 g1 g2 g3 g4 g5;refine wp_region_till (S := (fun W => W.cell? ⟨w1.heap.size, 5, none⟩ = some (.slice (some ⟨D3.heap.size, 0, none⟩) 1 1))) 6 (by kernel_rfl) (AI9.out.drew.cell5) (fun hHeld0 => ?_);refine nkT 0 ?_;refine nkT 1 ?_;refine nkT 2 ?_;refine r1T 3 (fun K hK => ?_);go_simp;refine (args_c hF r4 _ (by have := HKL.o; have := HC2.o; have := HL3.o; have := HL4.o; omega) AI9.out.drew.pst).mono ?_;rintro e w10 (⟨ks10, r10, v10, h1, rfl, hk, h4, h5, h7⟩ | ⟨q, hb, rfl, ho⟩);rotate_left
    ·have HH := hid (show Ps.post F l = .bad q /\ Only (· = p.B) w w10 from ⟨by rw [HE3.o, HE4.o, Ps.O.bind_ok, dotP, if_pos HI8.o, hb]; rfl, AI9.out.drew.only.trans ho⟩);clear hb ho;exact ⟨rfl, .inr ⟨_, HH.o.1, rfl, HH.o.2⟩⟩
    have HE10 := hid h1;have HL10 := hid h7;have AI10 := hid (AI9.out.drew.call h5 h4);obtain ⟨va10, vc10, rfl⟩ := hk.slice;obtain ⟨_, _, _, _, hs10⟩ := hk.src;have HS10 := hid hs10;have H210 := hid (KRowD.behind AI9.out.drew.row hk (Nat.le_refl _) (fun k hk => ⟨Nat.le_trans AI9.out.drew.size hk, by have := AI9.out.drew.box.lt; omega⟩));have HM := hid (show ks10.length <= 50000 by have := map_fst_len ks10; have := HL10.o; have := HKM.o; have := HC2.o; have := HL3.o; have := HL4.o; omega);refine hK.out _ _ AI10.out.cell5 (fun hHeld1 => ?_);clear hK K;(try simp only [Act.put, aL])
    clear h1 hk h4 h5 h7 hs10 hHeld0;refine r1T 4 (fun K hK => ?_);refine step_nd (k2 := ks10) (.tmp 20) (.tmp 22) rfl rfl rfl AI10.out.row rfl HS10.o H210.o AI10.out.size (by have := HM.o; simp; omega) ?_;intro ka kc wa hr ho hl;obtain ⟨q0, q1, q2⟩ := AI10.out.more hr ho hl;refine hK.out _ _ q0 (fun hHeld2 => ?_);clear hK K;refine nkT 5 ?_;clear hr ho hl hHeld1 hHeld2;refine lTT (fun K hK => ?_);go_simp;refine hK.out _ _ ?_;clear hK K;(try simp only [Act.put, aL])
    refine wpAnyT_done (by kernel_rfl) ?_ _;obtain ⟨W11, hW11⟩ : ∃ W11, wa.setCell ⟨w1.heap.size, 5, none⟩ (.slice ka (1 + ks10.length) kc) = W11 := ⟨_, rfl⟩;rw [show wa.setCell ⟨w1.heap.size, 5, none⟩ (.slice ka ([(x2, Value.slice va2 ks2.length vc2)].length + ks10.length) kc) = W11 from hW11] at q2;have hq2 : AppI p w w1.heap.size (Ps.nd 19 t4.text Ps.e0 0 (x2 :: ks10.map (·.1))) (.slice ka ((x2, Value.slice va2 ks2.length vc2) :: ks10).length kc) ((x2, .slice va2 ks2.length vc2) :: ks10) r10 W11 := by
     have e : ((x2, Value.slice va2 ks2.length vc2) :: ks10).length = [(x2, Value.slice va2 ks2.length vc2)].length + ks10.length := by simp; omega
     rw [e];exact ⟨q2.box, q2.row, q2.ne, q2.res, q2.gx, q2.pst, q2.only⟩
    have HM2 := hid (show PostI p F w w1.heap.size (Ps.post F l) l.length (Ps.nd 19 t4.text Ps.e0 0 (x2 :: ks10.map (·.1))) ka kc ((x2, .slice va2 ks2.length vc2) :: ks10) r10 W11 from ⟨hq2, rfl, nd_ok1 _ _ _ _ _ (by decide) HT4.o.2.1 e0_size (by decide), ⟨K, by have := HK3.o; have := HL3.o; have := HL4.o; have := HL10.o; omega, by
     rw [HE3.o, HE4.o, Ps.O.bind_ok, dotP, if_pos HI8.o, HE10.o]; rfl⟩, by
     rw [count_nd, Nd.countL_cons]; have := HC2.o; have := HL3.o; have := HL4.o; have := HL10.o; omega⟩)
    have HW11 := hid hW11;clear hq2 q0 q1 q2 hW11;rw [HW11.o];go_wp2_with fail;go_roundw
    case rel => exact ⟨_, _, _, _, _, HM2⟩
    case measure =>
     have h1 := HM2.o.app.pst.ahead;have h2 := HAH2.o;have h3 := HL3.o;have h4 := HL4.o;have h5 := HL10.o;rw [h1, h2]; omega
end
end Go.Proofs.YtegcgflhgfmkpaaGreatDoor
namespace Go.Proofs.YtegcgflhgfmkpaaGreatDoor
open Lib (hid)
open _root_.Go.Proofs.Tryz
open Go.ChangeShapes Go.WideShapes Go.ChangeAt Go.RowKit
attribute [local go_sem] Oper.semAt_some
open Ps (O W)
section
variable {p : PP} {F : Ps.Fam} {k : Nat}
theorem unary_c (hF : FamC p F k) (hW : Ways p F k) (l : List Lx.T) (w : World) (hk : l.length <= k + 1) (hp : Pst p l w) : Calls prog 179 #[.pointer (some ⟨p.B, 0, none⟩)] w (NodePost p l (Ps.unary F l) w) := by
 obtain ⟨t, r, rfl, htok⟩ := hp.good.cons;have HLC := hid (show r.length + 1 = (t :: r).length from rfl);obtain ⟨W0, hW0⟩ : ∃ W0, w.alloc (.cells pzN nT) = W0 := ⟨_, rfl⟩;have k0 := kpA hW0;have HZ0 := hid (szA hW0);have HB0 := hid (bkA hW0);have HP0 := hid (hp.kept k0);have HN := hid hp.lt;have HO0 := hid (show Only (· = p.B) w W0 from Only.of_kept k0);have HW0 := hid hW0;have HKL := hid hk;clear hp k0 hW0 hk;have hf1 := field_tok1;have hf2 := field_tok2;go_enter func179, ntmps179;go_wp2_with (rw [HW0.o]);refine (is_l [Ps.kMinus, Ps.kBang] (ty := 9) HP0.o rfl rfl rfl (by decide)).mono ?_;rintro e w1 ⟨he, k1⟩;have HP1 := hid (HP0.o.kept k1);have HO1 := hid (HO0.o.trans (Only.of_kept k1));have HB1 := hid (HB0.o.kept k1);have HZ1 := hid (Nat.le_trans HZ0.o k1.size)
 cases hi : Ps.is [Ps.kMinus, Ps.kBang] (t :: r) with
 | false =>
  rw [hi] at he;subst he;have HE1 := hid (show Ps.unary F (t :: r) = Ps.post F (t :: r) by rw [Ps.unary, show Ps.mem [Ps.kMinus, Ps.kBang] (Ps.srt t) = false from hi]; rfl);clear hi k1;go_wp2_with fail;refine (post_c hF hW _ _ HKL.o HP1.o).mono ?_;rintro e w2 (⟨x2, ks2, r2, v2, h1, rfl, hx, hk, h4, h5, hok, h7⟩ | ⟨q, hb, rfl, ho⟩);rotate_left
  ·have HH := hid (show Ps.unary F (t :: r) = .bad q /\ Only (· = p.B) w w2 from ⟨HE1.o.trans hb, HO1.o.trans ho⟩);clear hb ho;go_wp2_with fail;exact ⟨rfl, .inr ⟨_, HH.o.1, rfl, HH.o.2⟩⟩
  obtain ⟨va2, vc2, rfl⟩ := hk.slice;have HB2 := hid (HB1.o.only h5 (by have := HN.o; omega));have HH := hid (show Ps.unary F (t :: r) = .ok x2 r2 /\ x2.kids = ks2.map (·.1) /\ KRow (w.heap.size + 1) w2 (.slice va2 ks2.length vc2) ks2 /\ Pst p r2 w2 /\ Only (· = p.B) w w2 /\ x2.ok1 /\ x2.count + r2.length <= (t :: r).length from ⟨HE1.o.trans h1, hx, hk.lower HZ1.o, h4, HO1.o.trans h5, hok, h7⟩);clear h1 hx hk h4 h5 hok h7;obtain ⟨⟨y0, y1, y2, y3, y4, y5⟩, f0, f1, f2, f3, f4, f5⟩ := nd_six HB2.o;go_wp2_with fail;exact node_end (x := x2) (ks := ks2) (v := .slice va2 ks2.length vc2) (by rfl) rfl rfl HB2.o HH.o.1 HH.o.2.1 HH.o.2.2.1 HH.o.2.2.2.1 HN.o.2 HH.o.2.2.2.2.1 HH.o.2.2.2.2.2.1 HH.o.2.2.2.2.2.2
 | true =>
  rw [hi] at he;subst he;have HSR := hid (show Ps.srt t ≠ Ps.theEnd from fun e => by
   have h0 : Ps.mem [Ps.kMinus, Ps.kBang] (Ps.srt t) = true := hi;rw [e] at h0;exact absurd h0 (by decide +kernel))
  have HE1 := hid (show Ps.unary F (t :: r) = (F .unary r).bind fun m r' => .ok (Ps.nd 24 t.text Ps.e0 0 [m]) r' by rw [Ps.unary, show Ps.mem [Ps.kMinus, Ps.kBang] (Ps.srt t) = true from hi]; rfl);have HTK := hid (HP0.o.good.ok t (by simp));clear hi k1;go_wp2_with fail;refine (pnext_c _ HP1.o HSR.o).mono ?_;rintro e w2 ⟨rfl, h4, h5⟩;have HP2 := hid h4;have HO2 := hid (HO1.o.trans h5);have HZ2 := hid (Nat.le_trans HZ1.o (Only.size h5));have HB2 := hid (HB1.o.only h5 (by have := HN.o; omega));clear h4 h5;go_wp2_with fail;refine (hF.unary r _ (by have := HKL.o; have := HLC.o; omega) HP2.o).mono ?_;rintro e w3 (⟨x3, ks3, r3, v3, h1, rfl, hx, hk, h4, h5, hok, h7⟩ | ⟨q, hb, rfl, ho⟩);rotate_left
  ·have HH := hid (show Ps.unary F (t :: r) = .bad q /\ Only (· = p.B) w w3 from ⟨by rw [HE1.o, hb]; rfl, HO2.o.trans ho⟩);clear hb ho;go_wp2_with fail;exact ⟨rfl, .inr ⟨_, HH.o.1, rfl, HH.o.2⟩⟩
  obtain ⟨W4, hW4⟩ : ∃ W4, w3.alloc (.cells (ndA x3 v3) nT) = W4 := ⟨_, rfl⟩;have k4 := kpA hW4;have HK4 := hid (show KRow (w.heap.size + 1) W4 (.slice (some ⟨w3.heap.size, 0, none⟩) 1 1) [(x3, v3)] by
   rw [<- hW4];exact KRow.lit [(x3, v3)] rfl rfl rfl (Nat.le_trans HZ2.o h5.size) (by simp) (fun q hq => by
    rw [List.mem_singleton] at hq; subst hq;exact ⟨hok, ks3, hx, hk.lower HZ2.o⟩))
  have HE4 := hid (show Ps.unary F (t :: r) = .ok (Ps.nd 24 t.text Ps.e0 0 [x3]) r3 by rw [HE1.o, h1]; rfl);have HL4 := hid h7;have HP4 := hid (h4.kept k4);have HO4 := hid ((HO2.o.trans h5).trans (Only.of_kept k4));have HB4 := hid ((HB2.o.only h5 (by have := HN.o; omega)).kept k4);have HW4 := hid hW4;clear h1 hx hk h4 h5 hok h7 hW4 k4;obtain ⟨⟨y0, y1, y2, y3, y4, y5⟩, f0, f1, f2, f3, f4, f5⟩ := nd_six HB4.o;go_wp2_with (rw [HW4.o]);refine node_end (x := Ps.nd 24 t.text Ps.e0 0 [x3]) (ks := [(x3, v3)]) (by rfl) rfl rfl HB4.o HE4.o rfl HK4.o HP4.o HN.o.2 HO4.o (nd_ok1 _ _ _ _ _ (by decide) HTK.o.2.1 e0_size (by decide)) ?_;have := HL4.o;rw [count_nd, Nd.countL_cons, Nd.countL_nil, List.length_cons]; omega
theorem levs_stop (i j : Nat) (x : Nd) (r : List Lx.T) (h : ¬ i + 1 <= j) : Ps.levs F i j x r = .ok x r := by
 cases j with
 | zero => rfl
 | succ j => rw [Ps.levs, if_neg (by omega)]
theorem levs_go (i j : Nat) (x : Nd) (r : List Lx.T) (h : i <= j) : Ps.levs F i (j + 1) x r = (Ps.lvl F j r.length x r).bind (Ps.levs F i j) := by rw [Ps.levs, if_pos h]
structure OprI (p : PP) (w : World) (gx : Nat) (o : O Nd) (n : Nat) (rest : Nat -> Nd -> List Lx.T -> O Nd) (x : Nd) (va : Option Addr) (vc : Nat) (ks : List (Nd × Value)) (r : List Lx.T) (W : World) : Prop where
 app : AppI p w gx x (.slice va ks.length vc) ks r W
 kids : x.kids = ks.map (·.1)
 ok : x.ok1
 eq : ∃ K, r.length <= K /\ o = rest K x r
 cnt : x.count + r.length <= n
theorem lvl_go {j K : Nat} {x : Nd} {t : Lx.T} {r : List Lx.T} (hK : (t :: r).length <= K) (hm : Ps.mem (Ps.levels j) (Ps.srt t) = true) : ∃ K', r.length <= K' /\ Ps.lvl F j K x (t :: r) = (F (.oper (j + 1)) r).bind fun m r' => Ps.lvl F j K' (Ps.nd 25 t.text Ps.e0 0 [x, m]) r' := by
 cases K with
 | zero => cases hK
 | succ K => exact ⟨K, by rw [List.length_cons] at hK; omega, by rw [Ps.lvl, if_pos hm]⟩
theorem lvl_stop {j K : Nat} {x : Nd} {t : Lx.T} {r : List Lx.T} (hm : Ps.mem (Ps.levels j) (Ps.srt t) = false) : Ps.lvl F j K x (t :: r) = .ok x (t :: r) := by
 cases K with
 | zero => rfl
 | succ K => rw [Ps.lvl, hm]; rfl
theorem level_end {j : Nat} : Ps.mem (Ps.levels j) Ps.theEnd = false := by
 match j with
 | 0 => decide +kernel
 | 1 => decide +kernel
 | 2 => decide +kernel
 | 3 => decide +kernel
 | 4 => decide +kernel
 | 5 => decide +kernel
 | _ + 6 => rfl
theorem Pst.level {l : List Lx.T} {w : World} (h : Pst p l w) {j : Nat} (hj : j < 6) : ∃ a c, w.cell? ⟨p.B, 2 + j, none⟩ = some (.slice a (Ps.levels j).length c) /\ LvR p.far w (.slice a (Ps.levels j).length c) (Ps.levels j) := by
 obtain ⟨ad, c0, hb, _⟩ := h.blk;have hl := h.sta.lv j hj;obtain ⟨a, c, e, _⟩ := id hl;refine ⟨a, c, ?_, e ▸ hl⟩;rw [hb.cell, <- e]
 match j, hj with
 | 0, _ => rfl
 | 1, _ => rfl
 | 2, _ => rfl
 | 3, _ => rfl
 | 4, _ => rfl
 | 5, _ => rfl
theorem operation_c (hF : FamC p F k) (hW : Ways p F k) (i : Nat) (hi6 : i <= 6) (l : List Lx.T) (w : World) (hk : l.length <= k + 1) (hp : Pst p l w) : Calls prog 166 #[.pointer (some ⟨p.B, 0, none⟩), .int .i64 (i : Int)] w (NodePost p l (Ps.oper F i l) w) := by
 obtain ⟨W0, hW0⟩ : ∃ W0, w.alloc (.cells pzN nT) = W0 := ⟨_, rfl⟩;have k0 := kpA hW0;have HZ0 := hid (szA hW0);have HB0 := hid (bkA hW0);have HP0 := hid (hp.kept k0);have HN := hid hp.lt;have HO0 := hid (show Only (· = p.B) w W0 from Only.of_kept k0);have HW0 := hid hW0;have HKL := hid hk;clear hp k0 hW0 hk;have hf1 := field_tok1;have hf2 := field_tok2;go_enter func166, ntmps166;go_wp2_with (rw [HW0.o]);refine (unary_c hF hW l _ HKL.o HP0.o).mono ?_;rintro e w1 (⟨x1, ks1, r1, v1, h1, rfl, hx, hk, h4, h5, hok, h7⟩ | ⟨q, hb, rfl, ho⟩);rotate_left
 ·have HH := hid (show Ps.oper F i l = .bad q /\ Only (· = p.B) w w1 from ⟨by simp only [Ps.oper, hb, Ps.O.bind_ok, Ps.O.bind_bad, eq_self, if_true, Bool.false_eq_true, if_false], HO0.o.trans ho⟩);clear hb ho;go_wp2_with fail;exact ⟨rfl, .inr ⟨_, HH.o.1, rfl, HH.o.2⟩⟩
 obtain ⟨va1, vc1, rfl⟩ := hk.slice;have HKx := hid (hk.lower HZ0.o);have HB1 := hid (HB0.o.only h5 (by have := HN.o; omega));obtain ⟨V1, hV1⟩ : ∃ V, w1.alloc (.cells (ndA x1 (.slice va1 ks1.length vc1)) nT) = V := ⟨_, rfl⟩;have HM1 := hid (show OprI p w w1.heap.size (Ps.oper F i l) l.length (fun _ x r => Ps.levs F i 6 x r) x1 va1 vc1 ks1 r1 V1 from ⟨AppI.new (x := x1) HKx.o HB1.o HN.o h4 (HO0.o.trans h5) rfl hV1, hx, hok, ⟨_, Nat.le_refl _, by simp only [Ps.oper, h1, Ps.O.bind_ok]⟩, h7⟩);have HV1 := hid hV1;have HI6 := hid hi6;clear h1 hx hk h4 h5 hok h7 hV1 hi6;go_wp2_with (rw [HV1.o]);go_loopw [6] (fun s wr => ∃ (j : Nat) (x : Nd) (ks : List (Nd × Value)) (r : List Lx.T) (va : Option Addr) (vc : Nat), s = .int .i64 ((j : Int) - 1) /\ j <= 6 /\ Hid (OprI p w w1.heap.size (Ps.oper F i l) l.length (fun _ x r => Ps.levs F i j x r) x va vc ks r wr)) (fun s wr => (intOf s + 1).toNat)
 case atStart => exact ⟨6, _, _, _, _, _, rfl, by omega, HM1⟩
 case round =>
  obtain ⟨j, x2, ks2, r2, va2, vc2, rfl, hj6, HR2⟩ := hrel;have AR2 := hid HR2.o.app;have HC2 := hid HR2.o.cnt;have HX2 := hid (And.intro HR2.o.kids HR2.o.ok);obtain ⟨wo, rfl⟩ : ∃ wo, wo = wr := ⟨_, rfl⟩;by_cases hij : i + 1 <= j;rotate_left
  ·have hijI : ¬ (i : Int) <= (j : Int) - 1 := by omega
   have HE2 := hid (show Ps.oper F i l = .ok x2 r2 by
    obtain ⟨_, _, e⟩ := HR2.o.eq;rw [e, levs_stop _ _ _ _ hij])
   clear hij hj6;obtain ⟨z0, z1, z2, z3, z4, z5⟩ := AR2.out.cells;obtain ⟨⟨y0, y1, y2, y3, y4, y5⟩, f0, f1, f2, f3, f4, f5⟩ := nd_six AR2.out.res;go_wp2_with fail;exact AR2.out.end (y := x2) (by rfl) rfl rfl ⟨rfl, rfl, rfl, rfl, rfl⟩ HE2.o HX2.o.1 HX2.o.2 HC2.o
  obtain ⟨j', rfl⟩ : ∃ j', j = j' + 1 := ⟨j - 1, by omega⟩;have hjI : ((j' + 1 : Nat) : Int) - 1 = (j' : Int) := by omega
  rw [hjI];have hijI : (i : Int) <= (j' : Int) := by omega
  have hj5 : (j' : Int) <= 5 := by omega
  have hj0 : (0 : Int) <= (j' : Int) := by omega
  have hj5n : j' < 6 := by omega
  have HJ5 := hid hj5n;have HM2 := hid (show OprI p w w1.heap.size (Ps.oper F i l) l.length (fun K x r => (Ps.lvl F j' K x r).bind (Ps.levs F i j')) x2 va2 vc2 ks2 r2 wo from ⟨AR2.out, HX2.o.1, HX2.o.2, ⟨_, Nat.le_refl _, by
   obtain ⟨_, _, e⟩ := HR2.o.eq;rw [e, levs_go _ _ _ _ (by omega)]⟩, HC2.o⟩)
  clear hij hj6 hjI;go_wp2_with fail;go_loopw [] (fun wr => ∃ x ks r va vc, Hid (OprI p w w1.heap.size (Ps.oper F i l) l.length (fun K x r => (Ps.lvl F j' K x r).bind (Ps.levs F i j')) x va vc ks r wr)) (fun wr => ahead p wr)
  case atStart => exact ⟨_, _, _, _, _, HM2⟩
  case round =>
   obtain ⟨x3, ks3, r3, va3, vc3, HR3⟩ := hrel;have AR3 := hid HR3.o.app;have HAH3 := hid AR3.out.pst.ahead;have HC3 := hid HR3.o.cnt;have HX3 := hid (And.intro HR3.o.kids HR3.o.ok);obtain ⟨la, lc, hlc, hlv⟩ := AR3.out.pst.level HJ5.o;have hlc : wr.cell? ⟨p.B, 2 + (j' : Int).toNat, none⟩ = some (.slice la (Ps.levels j').length lc) := hlc;have HLV := hid hlv;clear hlv;obtain ⟨t3, q3, rfl, htk⟩ := AR3.out.pst.good.cons;have HTK := hid htk;clear htk;go_wp2_with fail;refine (is_c p.far (Ps.levels j') la _ lc wr AR3.out.pst rfl HLV.o).mono ?_;rintro e w4 ⟨he, k4⟩
   cases hi : Ps.mem (Ps.levels j') (Ps.srt t3) with
   | false =>
    rw [hi] at he;subst he;have HM4 := hid (show OprI p w w1.heap.size (Ps.oper F i l) l.length (fun _ x r => Ps.levs F i j' x r) x3 va3 vc3 ks3 (t3 :: q3) w4 from ⟨AR3.out.kept k4, HX3.o.1, HX3.o.2, ⟨_, Nat.le_refl _, by
     obtain ⟨K, _, e⟩ := HR3.o.eq;rw [e, lvl_stop hi]; rfl⟩, HC3.o⟩)
    clear hi k4;go_wp2_with fail;go_roundw
    case rel => exact ⟨j', _, _, _, _, _, by go_num, by omega, HM4⟩
    case measure => simp [intOf]
   | true =>
    rw [hi] at he;subst he;have HSR := hid (show Ps.srt t3 ≠ Ps.theEnd from fun e => by rw [e, level_end] at hi; cases hi);obtain ⟨K, hK, hKe⟩ := HR3.o.eq;obtain ⟨K', hK', hKe'⟩ := lvl_go (F := F) (x := x3) hK hi;have HE3 := hid (show Ps.oper F i l = ((F (.oper (j' + 1)) q3).bind fun m r' => Ps.lvl F j' K' (Ps.nd 25 t3.text Ps.e0 0 [x3, m]) r').bind (Ps.levs F i j') by rw [hKe]; show (Ps.lvl F j' K x3 (t3 :: q3)).bind _ = _; rw [hKe']);have HK3 := hid hK';have AI4 := hid (AR3.out.kept k4);have HO6 := hid (fun W (h : Pst p q3 W) => show Calls prog 166 #[.pointer (some ⟨p.B, 0, none⟩), .int .i64 ((j' : Int) + 1)] W (NodePost p q3 (F (.oper (j' + 1)) q3) W) from hF.oper (j' + 1) q3 W (by have := HJ5.o; omega) (by have h1 := HC3.o; have := HKL.o; have := Nd.count_pos x3; rw [List.length_cons] at h1; omega) h);clear hi k4 hK hKe hK' hKe' hlc;go_wp2_with fail;obtain ⟨D4, hD4⟩ : ∃ D, w4.drew = D := ⟨_, rfl⟩;have AD4 := hid (show AppI p w w1.heap.size x3 (.slice va3 ks3.length vc3) ks3 (t3 :: q3) D4 by rw [<- hD4]; exact AI4.out.drew);have HD4 := hid hD4;have HS4 := hid (show _ from (AD4.out.cells));rw [<- HD4.o] at HS4;clear hD4;refine wp_region_till (S := (fun W => W.cell? ⟨w1.heap.size, 0, none⟩ = some (.int .i64 x3.kind) /\ W.cell? ⟨w1.heap.size, 1, none⟩ = some (.string x3.text) /\ W.cell? ⟨w1.heap.size, 2, none⟩ = some (.string x3.typ) /\ W.cell? ⟨w1.heap.size, 3, none⟩ = some (.string x3.frm) /\ W.cell? ⟨w1.heap.size, 4, none⟩ = some (.int .i64 x3.n) /\ W.cell? ⟨w1.heap.size, 5, none⟩ = some (.slice va3 ks3.length vc3))) 10 (by kernel_rfl) HS4.o (fun hHeld0 => ?_);rw [HD4.o] at hHeld0 ⊢;refine nkT 0 ?_;refine nkT 3 ?_;refine nkT 4 ?_;refine nkT 5 ?_;refine nkT 6 ?_;refine r1T 1 (fun K hK => ?_);go_simp;refine (pnext_c _ AD4.out.pst HSR.o).mono ?_;rintro e w5 ⟨rfl, h4, h5⟩;have AI5 := hid (AD4.out.call h5 h4);refine hK.out _ _ AI5.out.cells (fun hHeld1 => ?_);clear hK K;clear h4 h5 hHeld0;refine nkT 2 ?_;refine r1T 7 (fun K hK => ?_);go_simp;rw [show IntKind.i64.wrap ((j' : Int) + 1) = (j' : Int) + 1 from IntWalk.i64_in _ (by omega)];refine (HO6.o _ AI5.out.pst).mono ?_;rintro e w6 (⟨x6, ks6, r6, v6, h1, rfl, hx, hk, h4, h5, hok, h7⟩ | ⟨q, hb, rfl, ho⟩);rotate_left
    ·have HH := hid (show Ps.oper F i l = .bad q /\ Only (· = p.B) w w6 from ⟨by rw [HE3.o, hb]; rfl, AI5.out.only.trans ho⟩);clear hb ho;exact ⟨rfl, .inr ⟨_, HH.o.1, rfl, HH.o.2⟩⟩
    have HE6 := hid h1;have HL6 := hid h7;obtain ⟨ai6, hr6, hn6⟩ := AI5.out.lit2 HX3.o.1 HX3.o.2 h5 h4 hx hk hok;have AI6 := hid ai6;obtain ⟨W7, hW7⟩ : ∃ W7, w6.alloc (.cells #[.int .i64 x3.kind, .string x3.text, .string x3.typ, .string x3.frm, .int .i64 x3.n, .slice va3 ks3.length vc3, .int .i64 x6.kind, .string x6.text, .string x6.typ, .string x6.frm, .int .i64 x6.n, v6] nT) = W7 := ⟨_, rfl⟩;rw [hW7] at hr6;have HKR := hid (And.intro hr6 hn6);have AI7 := hid (ai6.kept (show Kept w6 W7 by rw [<- hW7]; exact (Kept.refl _).alloc _));have HW7 := hid hW7;refine hK.out _ _ AI6.out.cells (fun hHeld2 => ?_);clear hK K;(try simp only [Act.put, aL])
    clear h1 hx hk h4 h5 hok h7 ai6 hr6 hn6 hW7 hHeld1;refine r1T 8 (fun K hK => ?_);go_simp;rw [HW7.o];refine hK.out _ _ AI7.out.cells (fun hHeld3 => ?_);clear hK K;clear hHeld2;refine nkT 9 ?_;obtain ⟨_, g0, g1, g2, g3, g4, g5⟩ := nd_six AI7.out.box;clear hHeld3;refine lTT (fun K hK => ?_);go_simp;refine hK.out _ _ ?_;clear hK K;(try simp only [Act.put, aL])
    refine wpAnyT_done (by kernel_rfl) ?_ _;clear g0 g1 g2 g3 g4 g5;have hai := AI7.out.put HKR.o.1 HKR.o.2 (Ps.nd 25 t3.text Ps.e0 0 [x3, x6]);obtain ⟨W8, hW8⟩ : ∃ W8, put6n W7 w1.heap.size (Ps.nd 25 t3.text Ps.e0 0 [x3, x6]) (.slice (some ⟨w6.heap.size, 0, none⟩) 2 2) = W8 := ⟨_, rfl⟩;rw [hW8] at hai;have HM8 := hid (show OprI p w w1.heap.size (Ps.oper F i l) l.length (fun K x r => (Ps.lvl F j' K x r).bind (Ps.levs F i j')) (Ps.nd 25 t3.text Ps.e0 0 [x3, x6]) (some ⟨w6.heap.size, 0, none⟩) 2 [(x3, .slice va3 ks3.length vc3), (x6, v6)] r6 W8 from ⟨hai, rfl, nd_ok1 _ _ _ _ _ (by decide) HTK.o.2.1 e0_size (by decide), ⟨K', by have := HK3.o; have := HL6.o; omega, by
     rw [HE3.o, HE6.o]; rfl⟩, by
     rw [count_nd, Nd.countL_cons, Nd.countL_cons, Nd.countL_nil]; have h1 := HC3.o; rw [List.length_cons] at h1; have := HL6.o; omega⟩)
    have HW8 := hid (show (((((W7.setCell ⟨w1.heap.size, 0, none⟩ (.int .i64 25)).setCell ⟨w1.heap.size, 1, none⟩ (.string t3.text)).setCell ⟨w1.heap.size, 2, none⟩ (.string Ps.e0)).setCell ⟨w1.heap.size, 3, none⟩ (.string Ps.e0)).setCell ⟨w1.heap.size, 4, none⟩ (.int .i64 0)).setCell ⟨w1.heap.size, 5, none⟩ (.slice (some ⟨w6.heap.size, 0, none⟩) 2 2) = W8 from hW8);clear hai hW8;rw [HW8.o];go_wp2_with fail;go_roundw
    case rel => exact ⟨_, _, _, _, _, HM8⟩
    case measure =>
     have h1 := HM8.o.app.pst.ahead;have h2 := HAH3.o;have h3 := HL6.o;have h4 := Nd.count_pos x6;rw [h1, h2, List.length_cons]; omega
end
end Go.Proofs.YtegcgflhgfmkpaaGreatDoor
namespace Go.Proofs.YtegcgflhgfmkpaaGreatDoor
open Lib (hid)
open Go.ChangeShapes Go.WideShapes Go.ChangeAt Go.RowKit
attribute [local go_sem] Oper.semAt_some
open Ps (O W)
section
variable {p : PP} {F : Ps.Fam} {k : Nat}
theorem pexpr_c (hF : FamC p F k) (hW : Ways p F k) (l : List Lx.T) (w : World) (hk : l.length <= k + 1) (hp : Pst p l w) : Calls Tryz.prog 147 #[.pointer (some ⟨p.B, 0, none⟩)] w (NodePost p l (Ps.expr F l) w) := by
 obtain ⟨W0, hW0⟩ : ∃ W0, w.alloc (.cells pzN nT) = W0 := ⟨_, rfl⟩;have k0 := kpA hW0;have HZ0 := hid (szA hW0);have HB0 := hid (bkA hW0);have HP0 := hid (hp.kept k0);have HN := hid hp.lt;have HO0 := hid (show Only (· = p.B) w W0 from Only.of_kept k0);have HKM := hid (show l.length <= 30000 from hp.len);have HW0 := hid hW0;have HKL := hid hk;clear hp k0 hW0 hk;have hf1 := field_tok1;have hf2 := field_tok2;go_enter Tryz.func147, Tryz.ntmps147;go_wp2_with (rw [HW0.o]);refine (show Calls Tryz.prog 166 #[.pointer (some ⟨p.B, 0, none⟩), .int .i64 0] W0 (NodePost p l (Ps.oper F 0 l) W0) from operation_c hF hW 0 (by omega) l W0 HKL.o HP0.o).mono ?_;rintro e w1 (⟨x1, ks1, r1, v1, h1, rfl, hx, hk, h4, h5, hok, h7⟩ | ⟨q, hb, rfl, ho⟩);rotate_left
 ·have HH := hid (show Ps.expr F l = .bad q /\ Only (· = p.B) w w1 from ⟨by simp only [Ps.expr, hb, Ps.O.bind_ok, Ps.O.bind_bad, eq_self, if_true, Bool.false_eq_true, if_false], HO0.o.trans ho⟩);clear hb ho;go_wp2_with fail;exact ⟨rfl, .inr ⟨_, HH.o.1, rfl, HH.o.2⟩⟩
 obtain ⟨va1, vc1, rfl⟩ := hk.slice;have HKx := hid (hk.lower HZ0.o);have HB1 := hid (HB0.o.only h5 (by have := HN.o; omega));obtain ⟨V1, hV1⟩ : ∃ V, w1.alloc (.cells (ndA x1 (.slice va1 ks1.length vc1)) nT) = V := ⟨_, rfl⟩;have AI1 := hid (AppI.new (x := x1) HKx.o HB1.o HN.o h4 (HO0.o.trans h5) rfl hV1);have HE1 := hid h1;have HX1 := hid (And.intro hx hok);have HL1 := hid h7;have HV1 := hid hV1;obtain ⟨t, r, rfl, htk⟩ := h4.good.cons;clear h1 hx hk h4 h5 hok h7 hV1 htk;go_wp2_with (rw [HV1.o]);refine (is_l [Ps.kEq] (ty := 9) AI1.out.pst rfl rfl rfl (by decide)).mono ?_;rintro e w2 ⟨he, k2⟩;have AI2 := hid (AI1.out.kept k2)
 cases hi : Ps.is [Ps.kEq] (t :: r) with
 | false =>
  rw [hi] at he;subst he;have HE2 := hid (show Ps.expr F l = .ok x1 (t :: r) by simp only [Ps.expr, HE1.o, Ps.O.bind_ok, hi, Bool.false_eq_true, if_false]);clear hi k2;obtain ⟨z0, z1, z2, z3, z4, z5⟩ := AI2.out.cells;obtain ⟨⟨y0, y1, y2, y3, y4, y5⟩, f0, f1, f2, f3, f4, f5⟩ := nd_six AI2.out.res;go_wp2_with fail;exact AI2.out.end (y := x1) (by rfl) rfl rfl ⟨rfl, rfl, rfl, rfl, rfl⟩ HE2.o HX1.o.1 HX1.o.2 HL1.o
 | true =>
  rw [hi] at he;subst he;have HSR := hid (show Ps.srt t ≠ Ps.theEnd from fun e => by
   have h0 : Ps.mem [Ps.kEq] (Ps.srt t) = true := hi;rw [e] at h0;exact absurd h0 (by decide +kernel))
  have HE2 := hid (show Ps.expr F l = if Ps.setK x1.kind = 0 then .bad t.pos else (F .expr r).bind fun m r => .ok (.mk (Ps.setK x1.kind) x1.text x1.typ x1.frm x1.n (x1.kids ++ [m])) r by simp only [Ps.expr, HE1.o, Ps.O.bind_ok, hi, if_true]; rfl);clear hi k2;by_cases hk : x1.kind = 14
  ·have HE3 := hid (show Ps.expr F l = (F .expr r).bind fun m r => .ok (.mk 16 x1.text x1.typ x1.frm x1.n (x1.kids ++ [m])) r by rw [HE2.o, show Ps.setK x1.kind = 16 by unfold Ps.setK; rw [hk]; rfl]; rfl);have hb14 : (x1.kind == 14) = true := by rw [hk]; rfl
   obtain ⟨⟨z0, z1, z2, z3, z4, z5⟩, g0, g1, g2, g3, g4, g5⟩ := nd_six AI2.out.box;have hai := AI2.out.setKind (x' := .mk 16 x1.text x1.typ x1.frm x1.n x1.kids) ⟨rfl, rfl, rfl, rfl⟩;obtain ⟨W3, hW3⟩ : ∃ W3, w2.setCell ⟨w1.heap.size, 0, none⟩ (.int .i64 16) = W3 := ⟨_, rfl⟩;rw [show w2.setCell ⟨w1.heap.size, 0, none⟩ (.int .i64 (Nd.mk 16 x1.text x1.typ x1.frm x1.n x1.kids).kind) = W3 from hW3] at hai;have AI3 := hid hai;have HW3 := hid hW3;have HM := hid (show ks1.length + 1 <= 60000 by have h1 := map_fst_len ks1; rw [<- HX1.o.1] at h1; have h2 := HL1.o; rw [Nd.count_eq] at h2; have := HKM.o; omega);clear hai hW3 hk;go_wp2_with (rw [HW3.o]);clear z0 z1 z2 z3 z4 z5 g0 g1 g2 g3 g4 g5;refine (pnext_c _ AI3.out.pst HSR.o).mono ?_;rintro e w4 ⟨rfl, h4, h5⟩;have AI4 := hid (AI3.out.call h5 h4);clear h4 h5;go_wp2_with fail;refine wp_region_till (S := (fun W => W.cell? ⟨w1.heap.size, 5, none⟩ = some (.slice va1 ks1.length vc1))) 7 (by kernel_rfl) (AI4.out.drew.cell5) (fun hHeld0 => ?_);refine nkT 0 ?_;refine nkT 1 ?_;refine nkT 2 ?_;refine r1T 3 (fun K hK => ?_);go_simp;refine ((hF.expr r _ (by have h1 := HL1.o; have := HKL.o; have := Nd.count_pos x1; rw [List.length_cons] at h1; omega) AI4.out.pst.drew)).mono ?_;rintro e w5 (⟨x5, ks5, r5, v5, h1, rfl, hx, hk, h4, h5, hok, h7⟩ | ⟨q, hb, rfl, ho⟩);rotate_left
   ·have HH := hid (show Ps.expr F l = .bad q /\ Only (· = p.B) w w5 from ⟨by simp only [HE3.o, hb, Ps.O.bind_ok, Ps.O.bind_bad, eq_self, if_true, Bool.false_eq_true, if_false], AI4.out.drew.only.trans ho⟩);clear hb ho;exact ⟨rfl, .inr ⟨_, HH.o.1, rfl, HH.o.2⟩⟩
   have HE5 := hid h1;have HX5 := hid (And.intro hx hok);have HL5 := hid h7;obtain ⟨ai5, hs5, h25⟩ := AI4.out.drew.asks h5 h4 hx hk hok;refine hK.out _ _ ((AI4.out.drew.call h5 h4).cell5) (fun hHeld1 => ?_);clear hK K;(try simp only [Act.put, aL])
   refine r1T 4 (fun K hK => ?_);go_simp;refine hK.out _ _ ai5.cell5 (fun hHeld2 => ?_);clear hK K;(try simp only [Act.put, aL])
   have AJ5 := hid ai5;have HS5 := hid hs5;have H25 := hid h25;clear ai5 hs5 h25 h1 hx hk h4 h5 hok h7 hHeld0 hHeld1;refine r1T 5 (fun K hK => ?_);refine step_nd (k2 := [(x5, v5)]) (.tmp 24) (.tmp 27) rfl rfl rfl AJ5.out.row rfl HS5.o H25.o AJ5.out.size (by first | (simp; done) | (have := HM.o; simp; omega)) ?_;intro ka5 kc5 wa5 hr ho hl;obtain ⟨q0, q1, q2⟩ := AJ5.out.more hr ho hl;refine hK.out _ _ q0 (fun hHeld3 => ?_);clear hK K;refine nkT 6 ?_;clear hr ho hl hHeld2 hHeld3;refine lTT (fun K hK => ?_);go_simp;refine hK.out _ _ ?_;clear hK K;(try simp only [Act.put, aL])
   refine wpAnyT_done (by kernel_rfl) ?_ _;have AI7 := hid q2;obtain ⟨W7, hW7⟩ : ∃ W7, wa5.setCell ⟨w1.heap.size, 5, none⟩ (.slice ka5 (ks1.length + 1) kc5) = W7 := ⟨_, rfl⟩;rw [show wa5.setCell ⟨w1.heap.size, 5, none⟩ (.slice ka5 (ks1.length + [(x5, v5)].length) kc5) = W7 from hW7] at AI7;obtain ⟨⟨z0, z1, z2, z3, z4, z5⟩, _⟩ := nd_six AI7.out.box;obtain ⟨⟨y0, y1, y2, y3, y4, y5⟩, f0, f1, f2, f3, f4, f5⟩ := nd_six AI7.out.res;have HW7 := hid hW7;clear hW7 q0 q1 q2;rw [HW7.o];go_wp2_with fail;refine AI7.out.end (y := .mk 16 x1.text x1.typ x1.frm x1.n (x1.kids ++ [x5])) (by rfl) rfl rfl ⟨rfl, rfl, rfl, rfl, rfl⟩ (by rw [HE3.o, HE5.o]; rfl) (by rw [List.map_append, <- HX1.o.1]; rfl) ⟨⟨by show (-9223372036854775808 : Int) <= 16; decide, by show (16 : Int) <= 9223372036854775807; decide⟩, HX1.o.2.2⟩ ?_;have h1 := HL1.o;have h2 := HL5.o;rw [Nd.count_eq] at h1 ⊢;rw [List.length_cons] at h1
   show 1 + Nd.countL (x1.kids ++ [x5]) + _ <= _
   rw [countL_snoc]; omega
  have hb14 : (x1.kind == 14) = false := by simpa using hk
  by_cases hk7 : x1.kind = 17
  ·have HE3 := hid (show Ps.expr F l = (F .expr r).bind fun m r => .ok (.mk 18 x1.text x1.typ x1.frm x1.n (x1.kids ++ [m])) r by rw [HE2.o, show Ps.setK x1.kind = 18 by unfold Ps.setK; rw [hk7]; rfl]; rfl);have hb17 : (x1.kind == 17) = true := by rw [hk7]; rfl
   obtain ⟨⟨z0, z1, z2, z3, z4, z5⟩, g0, g1, g2, g3, g4, g5⟩ := nd_six AI2.out.box;have hai := AI2.out.setKind (x' := .mk 18 x1.text x1.typ x1.frm x1.n x1.kids) ⟨rfl, rfl, rfl, rfl⟩;obtain ⟨W3, hW3⟩ : ∃ W3, w2.setCell ⟨w1.heap.size, 0, none⟩ (.int .i64 18) = W3 := ⟨_, rfl⟩;rw [show w2.setCell ⟨w1.heap.size, 0, none⟩ (.int .i64 (Nd.mk 18 x1.text x1.typ x1.frm x1.n x1.kids).kind) = W3 from hW3] at hai;have AI3 := hid hai;have HW3 := hid hW3;have HM := hid (show ks1.length + 1 <= 60000 by have h1 := map_fst_len ks1; rw [<- HX1.o.1] at h1; have h2 := HL1.o; rw [Nd.count_eq] at h2; have := HKM.o; omega);clear hai hW3 hk hk7;go_wp2_with (rw [HW3.o]);clear z0 z1 z2 z3 z4 z5 g0 g1 g2 g3 g4 g5;refine (pnext_c _ AI3.out.pst HSR.o).mono ?_;rintro e w4 ⟨rfl, h4, h5⟩;have AI4 := hid (AI3.out.call h5 h4);clear h4 h5;go_wp2_with fail;refine wp_region_till (S := (fun W => W.cell? ⟨w1.heap.size, 5, none⟩ = some (.slice va1 ks1.length vc1))) 7 (by kernel_rfl) (AI4.out.drew.cell5) (fun hHeld0 => ?_);refine nkT 0 ?_;refine nkT 1 ?_;refine nkT 2 ?_;refine r1T 3 (fun K hK => ?_);go_simp;refine ((hF.expr r _ (by have h1 := HL1.o; have := HKL.o; have := Nd.count_pos x1; rw [List.length_cons] at h1; omega) AI4.out.pst.drew)).mono ?_;rintro e w5 (⟨x5, ks5, r5, v5, h1, rfl, hx, hk, h4, h5, hok, h7⟩ | ⟨q, hb, rfl, ho⟩);rotate_left
   ·have HH := hid (show Ps.expr F l = .bad q /\ Only (· = p.B) w w5 from ⟨by simp only [HE3.o, hb, Ps.O.bind_ok, Ps.O.bind_bad, eq_self, if_true, Bool.false_eq_true, if_false], AI4.out.drew.only.trans ho⟩);clear hb ho;exact ⟨rfl, .inr ⟨_, HH.o.1, rfl, HH.o.2⟩⟩
   have HE5 := hid h1;have HX5 := hid (And.intro hx hok);have HL5 := hid h7;obtain ⟨ai5, hs5, h25⟩ := AI4.out.drew.asks h5 h4 hx hk hok;refine hK.out _ _ ((AI4.out.drew.call h5 h4).cell5) (fun hHeld1 => ?_);clear hK K;(try simp only [Act.put, aL])
   refine r1T 4 (fun K hK => ?_);go_simp;refine hK.out _ _ ai5.cell5 (fun hHeld2 => ?_);clear hK K;(try simp only [Act.put, aL])
   have AJ5 := hid ai5;have HS5 := hid hs5;have H25 := hid h25;clear ai5 hs5 h25 h1 hx hk h4 h5 hok h7 hHeld0 hHeld1;refine r1T 5 (fun K hK => ?_);refine step_nd (k2 := [(x5, v5)]) (.tmp 24) (.tmp 27) rfl rfl rfl AJ5.out.row rfl HS5.o H25.o AJ5.out.size (by first | (simp; done) | (have := HM.o; simp; omega)) ?_;intro ka5 kc5 wa5 hr ho hl;obtain ⟨q0, q1, q2⟩ := AJ5.out.more hr ho hl;refine hK.out _ _ q0 (fun hHeld3 => ?_);clear hK K;refine nkT 6 ?_;clear hr ho hl hHeld2 hHeld3;refine lTT (fun K hK => ?_);go_simp;refine hK.out _ _ ?_;clear hK K;(try simp only [Act.put, aL])
   refine wpAnyT_done (by kernel_rfl) ?_ _;have AI7 := hid q2;obtain ⟨W7, hW7⟩ : ∃ W7, wa5.setCell ⟨w1.heap.size, 5, none⟩ (.slice ka5 (ks1.length + 1) kc5) = W7 := ⟨_, rfl⟩;rw [show wa5.setCell ⟨w1.heap.size, 5, none⟩ (.slice ka5 (ks1.length + [(x5, v5)].length) kc5) = W7 from hW7] at AI7;obtain ⟨⟨z0, z1, z2, z3, z4, z5⟩, _⟩ := nd_six AI7.out.box;obtain ⟨⟨y0, y1, y2, y3, y4, y5⟩, f0, f1, f2, f3, f4, f5⟩ := nd_six AI7.out.res;have HW7 := hid hW7;clear hW7 q0 q1 q2;rw [HW7.o];go_wp2_with fail;refine AI7.out.end (y := .mk 18 x1.text x1.typ x1.frm x1.n (x1.kids ++ [x5])) (by rfl) rfl rfl ⟨rfl, rfl, rfl, rfl, rfl⟩ (by rw [HE3.o, HE5.o]; rfl) (by rw [List.map_append, <- HX1.o.1]; rfl) ⟨⟨by show (-9223372036854775808 : Int) <= 18; decide, by show (18 : Int) <= 9223372036854775807; decide⟩, HX1.o.2.2⟩ ?_;have h1 := HL1.o;have h2 := HL5.o;rw [Nd.count_eq] at h1 ⊢;rw [List.length_cons] at h1
   show 1 + Nd.countL (x1.kids ++ [x5]) + _ <= _
   rw [countL_snoc]; omega
  have hb17 : (x1.kind == 17) = false := by simpa using hk7
  have HE3 := hid (show Ps.expr F l = .bad t.pos by rw [HE2.o, if_pos (by unfold Ps.setK; rw [if_neg hk, if_neg hk7])]);obtain ⟨⟨z0, z1, z2, z3, z4, z5⟩, g0, g1, g2, g3, g4, g5⟩ := nd_six AI2.out.box;clear hk hk7;go_wp2_with fail;refine (prefuse_c _ AI2.out.pst).mono ?_;rintro e w3 ⟨rfl, k3⟩;have HH := hid (AI2.out.only.trans (Only.of_kept k3));clear k3;go_wp2_with fail;exact ⟨rfl, .inr ⟨_, HE3.o, rfl, HH.o⟩⟩
end
end Go.Proofs.YtegcgflhgfmkpaaGreatDoor
namespace Go.Proofs.YtegcgflhgfmkpaaGreatDoor
open _root_.Go.Proofs.Tryz
open Go.ChangeShapes Go.WideShapes Go.ChangeAt Go.RowKit
attribute [local go_sem] Oper.semAt_some
open Ps (O W)
def wayF (x : ByteArray) : Option Value :=
 if x = ⟨#[108, 101, 110]⟩ then some (.func (.func 126) #[] #[]) else
 if x = ⟨#[105, 110, 116]⟩ then some (.func (.func 126) #[] #[]) else
 if x = ⟨#[114, 101, 97, 108]⟩ then some (.func (.func 126) #[] #[]) else
 if x = ⟨#[112, 114, 105, 110, 116]⟩ then some (.func (.func 125) #[] #[]) else
 if x = ⟨#[114, 101, 97, 100]⟩ then some (.func (.func 124) #[] #[]) else
 if x = ⟨#[119, 104, 105, 108, 101]⟩ then some (.func (.func 123) #[] #[]) else
 if x = ⟨#[105, 102]⟩ then some (.func (.func 122) #[] #[]) else
 if x = ⟨#[110, 101, 119]⟩ then some (.func (.func 121) #[] #[]) else
 if x = ⟨#[115, 117, 112, 101, 114]⟩ then some (.func (.func 120) #[] #[]) else
 if x = ⟨#[97, 32, 110, 97, 109, 101]⟩ then some (.func (.func 119) #[] #[]) else
 if x = ⟨#[116, 104, 105, 115]⟩ then some (.func (.func 118) #[] #[]) else
 if x = ⟨#[110, 111, 110, 101]⟩ then some (.func (.func 117) #[] #[]) else
 if x = ⟨#[40]⟩ then some (.func (.func 116) #[] #[]) else
 if x = ⟨#[97, 32, 115, 116, 114, 105, 110, 103]⟩ then some (.func (.func 115) #[] #[]) else
 if x = ⟨#[102, 97, 108, 115, 101]⟩ then some (.func (.func 114) #[] #[]) else
 if x = ⟨#[116, 114, 117, 101]⟩ then some (.func (.func 113) #[] #[]) else
 if x = ⟨#[105, 110, 102]⟩ then some (.func (.func 112) #[] #[]) else
 if x = ⟨#[110, 97, 110]⟩ then some (.func (.func 112) #[] #[]) else
 if x = ⟨#[97, 32, 114, 101, 97, 108]⟩ then some (.func (.func 111) #[] #[]) else
 if x = ⟨#[97, 110, 32, 105, 110, 116]⟩ then some (.func (.func 110) #[] #[]) else
 none
section
variable {p : PP} {F : Ps.Fam} {k : Nat}
theorem ways_none (hp : p.f = wayF) (t : Lx.T) (r : List Lx.T) (h : p.f (Ps.srt t) = none) : Ps.prim F (t :: r) = .bad t.pos := by
 rw [hp] at h;unfold wayF at h;by_cases n0 : Ps.srt t = ⟨#[108, 101, 110]⟩
 ·rw [if_pos n0] at h; cases h
 rw [if_neg n0] at h;by_cases n1 : Ps.srt t = ⟨#[105, 110, 116]⟩
 ·rw [if_pos n1] at h; cases h
 rw [if_neg n1] at h;by_cases n2 : Ps.srt t = ⟨#[114, 101, 97, 108]⟩
 ·rw [if_pos n2] at h; cases h
 rw [if_neg n2] at h;by_cases n3 : Ps.srt t = ⟨#[112, 114, 105, 110, 116]⟩
 ·rw [if_pos n3] at h; cases h
 rw [if_neg n3] at h;by_cases n4 : Ps.srt t = ⟨#[114, 101, 97, 100]⟩
 ·rw [if_pos n4] at h; cases h
 rw [if_neg n4] at h;by_cases n5 : Ps.srt t = ⟨#[119, 104, 105, 108, 101]⟩
 ·rw [if_pos n5] at h; cases h
 rw [if_neg n5] at h;by_cases n6 : Ps.srt t = ⟨#[105, 102]⟩
 ·rw [if_pos n6] at h; cases h
 rw [if_neg n6] at h;by_cases n7 : Ps.srt t = ⟨#[110, 101, 119]⟩
 ·rw [if_pos n7] at h; cases h
 rw [if_neg n7] at h;by_cases n8 : Ps.srt t = ⟨#[115, 117, 112, 101, 114]⟩
 ·rw [if_pos n8] at h; cases h
 rw [if_neg n8] at h;by_cases n9 : Ps.srt t = ⟨#[97, 32, 110, 97, 109, 101]⟩
 ·rw [if_pos n9] at h; cases h
 rw [if_neg n9] at h;by_cases n10 : Ps.srt t = ⟨#[116, 104, 105, 115]⟩
 ·rw [if_pos n10] at h; cases h
 rw [if_neg n10] at h;by_cases n11 : Ps.srt t = ⟨#[110, 111, 110, 101]⟩
 ·rw [if_pos n11] at h; cases h
 rw [if_neg n11] at h;by_cases n12 : Ps.srt t = ⟨#[40]⟩
 ·rw [if_pos n12] at h; cases h
 rw [if_neg n12] at h;by_cases n13 : Ps.srt t = ⟨#[97, 32, 115, 116, 114, 105, 110, 103]⟩
 ·rw [if_pos n13] at h; cases h
 rw [if_neg n13] at h;by_cases n14 : Ps.srt t = ⟨#[102, 97, 108, 115, 101]⟩
 ·rw [if_pos n14] at h; cases h
 rw [if_neg n14] at h;by_cases n15 : Ps.srt t = ⟨#[116, 114, 117, 101]⟩
 ·rw [if_pos n15] at h; cases h
 rw [if_neg n15] at h;by_cases n16 : Ps.srt t = ⟨#[105, 110, 102]⟩
 ·rw [if_pos n16] at h; cases h
 rw [if_neg n16] at h;by_cases n17 : Ps.srt t = ⟨#[110, 97, 110]⟩
 ·rw [if_pos n17] at h; cases h
 rw [if_neg n17] at h;by_cases n18 : Ps.srt t = ⟨#[97, 32, 114, 101, 97, 108]⟩
 ·rw [if_pos n18] at h; cases h
 rw [if_neg n18] at h;by_cases n19 : Ps.srt t = ⟨#[97, 110, 32, 105, 110, 116]⟩
 ·rw [if_pos n19] at h; cases h
 rw [if_neg n19] at h;unfold Ps.prim;dsimp only;rw [if_neg n19];rw [if_neg n18];rw [if_neg n17];rw [if_neg n16];rw [if_neg n15];rw [if_neg n14];rw [if_neg n13];rw [if_neg n12];rw [if_neg n11];rw [if_neg n10];rw [if_neg n9];rw [if_neg n8];rw [if_neg n7];rw [if_neg n6];rw [if_neg n5];rw [if_neg n4];rw [if_neg n3];rw [if_neg n2];rw [if_neg n1];rw [if_neg n0]
theorem ways_some (hF : FamC p F k) (hp : p.f = wayF) (t : Lx.T) (r : List Lx.T) (v : Value) (h : p.f (Ps.srt t) = some v) :
  Ps.srt t ≠ Ps.theEnd /\ ∃ g way, v = .func (.func g) #[] #[] /\ (∀ args w, (callFunc g args).run prog w = .ok (.enter g args) w) /\ WayC p k g way /\ Ps.prim F (t :: r) = way t r := by
 rw [hp] at h;unfold wayF at h;by_cases n : Ps.srt t = ⟨#[108, 101, 110]⟩
 ·rw [if_pos n] at h;injection h with h;subst h;refine ⟨by rw [n]; decide +kernel, _, _, rfl, enters_of func126 (by kernel_rfl) rfl, conv_c hF, ?_⟩;unfold Ps.prim;dsimp only;rw [n]
  rfl
 rw [if_neg n] at h;clear n;by_cases n : Ps.srt t = ⟨#[105, 110, 116]⟩
 ·rw [if_pos n] at h;injection h with h;subst h;refine ⟨by rw [n]; decide +kernel, _, _, rfl, enters_of func126 (by kernel_rfl) rfl, conv_c hF, ?_⟩;unfold Ps.prim;dsimp only;rw [n]
  rfl
 rw [if_neg n] at h;clear n;by_cases n : Ps.srt t = ⟨#[114, 101, 97, 108]⟩
 ·rw [if_pos n] at h;injection h with h;subst h;refine ⟨by rw [n]; decide +kernel, _, _, rfl, enters_of func126 (by kernel_rfl) rfl, conv_c hF, ?_⟩;unfold Ps.prim;dsimp only;rw [n]
  rfl
 rw [if_neg n] at h;clear n;by_cases n : Ps.srt t = ⟨#[112, 114, 105, 110, 116]⟩
 ·rw [if_pos n] at h;injection h with h;subst h;refine ⟨by rw [n]; decide +kernel, _, _, rfl, enters_of func125 (by kernel_rfl) rfl, print_c hF, ?_⟩;unfold Ps.prim;dsimp only;rw [n]
  rfl
 rw [if_neg n] at h;clear n;by_cases n : Ps.srt t = ⟨#[114, 101, 97, 100]⟩
 ·rw [if_pos n] at h;injection h with h;subst h;refine ⟨by rw [n]; decide +kernel, _, _, rfl, enters_of func124 (by kernel_rfl) rfl, read_c, ?_⟩;unfold Ps.prim;dsimp only;rw [n]
  rfl
 rw [if_neg n] at h;clear n;by_cases n : Ps.srt t = ⟨#[119, 104, 105, 108, 101]⟩
 ·rw [if_pos n] at h;injection h with h;subst h;refine ⟨by rw [n]; decide +kernel, _, _, rfl, enters_of func123 (by kernel_rfl) rfl, loop_c hF, ?_⟩;unfold Ps.prim;dsimp only;rw [n]
  rfl
 rw [if_neg n] at h;clear n;by_cases n : Ps.srt t = ⟨#[105, 102]⟩
 ·rw [if_pos n] at h;injection h with h;subst h;refine ⟨by rw [n]; decide +kernel, _, _, rfl, enters_of func122 (by kernel_rfl) rfl, choice_c hF, ?_⟩;unfold Ps.prim;dsimp only;rw [n]
  rfl
 rw [if_neg n] at h;clear n;by_cases n : Ps.srt t = ⟨#[110, 101, 119]⟩
 ·rw [if_pos n] at h;injection h with h;subst h;refine ⟨by rw [n]; decide +kernel, _, _, rfl, enters_of func121 (by kernel_rfl) rfl, object_c hF, ?_⟩;unfold Ps.prim;dsimp only;rw [n]
  rfl
 rw [if_neg n] at h;clear n;by_cases n : Ps.srt t = ⟨#[115, 117, 112, 101, 114]⟩
 ·rw [if_pos n] at h;injection h with h;subst h;refine ⟨by rw [n]; decide +kernel, _, _, rfl, enters_of func120 (by kernel_rfl) rfl, super_c hF, ?_⟩;unfold Ps.prim;dsimp only;rw [n]
  rfl
 rw [if_neg n] at h;clear n;by_cases n : Ps.srt t = ⟨#[97, 32, 110, 97, 109, 101]⟩
 ·rw [if_pos n] at h;injection h with h;subst h;refine ⟨by rw [n]; decide +kernel, _, _, rfl, enters_of func119 (by kernel_rfl) rfl, variable_c, ?_⟩;unfold Ps.prim;dsimp only;rw [n]
  rfl
 rw [if_neg n] at h;clear n;by_cases n : Ps.srt t = ⟨#[116, 104, 105, 115]⟩
 ·rw [if_pos n] at h;injection h with h;subst h;refine ⟨by rw [n]; decide +kernel, _, _, rfl, enters_of func118 (by kernel_rfl) rfl, this_c, ?_⟩;unfold Ps.prim;dsimp only;rw [n]
  rfl
 rw [if_neg n] at h;clear n;by_cases n : Ps.srt t = ⟨#[110, 111, 110, 101]⟩
 ·rw [if_pos n] at h;injection h with h;subst h;refine ⟨by rw [n]; decide +kernel, _, _, rfl, enters_of func117 (by kernel_rfl) rfl, pnone_c, ?_⟩;unfold Ps.prim;dsimp only;rw [n]
  rfl
 rw [if_neg n] at h;clear n;by_cases n : Ps.srt t = ⟨#[40]⟩
 ·rw [if_pos n] at h;injection h with h;subst h;refine ⟨by rw [n]; decide +kernel, _, _, rfl, enters_of func116 (by kernel_rfl) rfl, brackets_c hF, ?_⟩;unfold Ps.prim;dsimp only;rw [n]
  rfl
 rw [if_neg n] at h;clear n;by_cases n : Ps.srt t = ⟨#[97, 32, 115, 116, 114, 105, 110, 103]⟩
 ·rw [if_pos n] at h;injection h with h;subst h;refine ⟨by rw [n]; decide +kernel, _, _, rfl, enters_of func115 (by kernel_rfl) rfl, text1_c, ?_⟩;unfold Ps.prim;dsimp only;rw [n]
  rfl
 rw [if_neg n] at h;clear n;by_cases n : Ps.srt t = ⟨#[102, 97, 108, 115, 101]⟩
 ·rw [if_pos n] at h;injection h with h;subst h;refine ⟨by rw [n]; decide +kernel, _, _, rfl, enters_of func114 (by kernel_rfl) rfl, no_c, ?_⟩;unfold Ps.prim;dsimp only;rw [n]
  rfl
 rw [if_neg n] at h;clear n;by_cases n : Ps.srt t = ⟨#[116, 114, 117, 101]⟩
 ·rw [if_pos n] at h;injection h with h;subst h;refine ⟨by rw [n]; decide +kernel, _, _, rfl, enters_of func113 (by kernel_rfl) rfl, yes_c, ?_⟩;unfold Ps.prim;dsimp only;rw [n]
  rfl
 rw [if_neg n] at h;clear n;by_cases n : Ps.srt t = ⟨#[105, 110, 102]⟩
 ·rw [if_pos n] at h;injection h with h;subst h;refine ⟨by rw [n]; decide +kernel, _, _, rfl, enters_of func112 (by kernel_rfl) rfl, noNumber_c, ?_⟩;unfold Ps.prim;dsimp only;rw [n]
  rfl
 rw [if_neg n] at h;clear n;by_cases n : Ps.srt t = ⟨#[110, 97, 110]⟩
 ·rw [if_pos n] at h;injection h with h;subst h;refine ⟨by rw [n]; decide +kernel, _, _, rfl, enters_of func112 (by kernel_rfl) rfl, noNumber_c, ?_⟩;unfold Ps.prim;dsimp only;rw [n]
  rfl
 rw [if_neg n] at h;clear n;by_cases n : Ps.srt t = ⟨#[97, 32, 114, 101, 97, 108]⟩
 ·rw [if_pos n] at h;injection h with h;subst h;refine ⟨by rw [n]; decide +kernel, _, _, rfl, enters_of func111 (by kernel_rfl) rfl, real_c, ?_⟩;unfold Ps.prim;dsimp only;rw [n]
  rfl
 rw [if_neg n] at h;clear n;by_cases n : Ps.srt t = ⟨#[97, 110, 32, 105, 110, 116]⟩
 ·rw [if_pos n] at h;injection h with h;subst h;refine ⟨by rw [n]; decide +kernel, _, _, rfl, enters_of func110 (by kernel_rfl) rfl, whole_c, ?_⟩;unfold Ps.prim;dsimp only;rw [n]
  rfl
 rw [if_neg n] at h;clear n
 cases h
theorem ways_c (hF : FamC p F k) (hp : p.f = wayF) : Ways p F k := ⟨fun t r v h => ways_some hF hp t r v h, fun t r h => ways_none hp t r h⟩
theorem fam_c (hp : p.f = wayF) : ∀ k, FamC p (Ps.run k) k
 | 0 => by
  refine ⟨?_, ?_, ?_, ?_⟩
  all_goals
   intros
   rename_i hl hP
   exact absurd (List.eq_nil_of_length_eq_zero (by omega)) hP.good.ne
 | k + 1 => by
  have hF := fam_c hp k;have hW := ways_c hF hp;exact ⟨fun l w hl hP => pexpr_c hF hW l w hl hP, fun i l w hi hl hP => operation_c hF hW i hi l w hl hP, fun l w hl hP => unary_c hF hW l w hl hP, fun l w hl hP => block_c hF l w hl hP⟩
end
end Go.Proofs.YtegcgflhgfmkpaaGreatDoor
