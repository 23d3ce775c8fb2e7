import Derived.Test.YtegcgflhgfmkpaaGreatDoorUTkm
import Derived.Test.YtegcgflhgfmkpaaGreatDoorUTro
import Derived.WalkMore
import Derived.Laws.Rows
set_option linter.unusedSimpArgs false
set_option linter.unusedVariables false
set_option maxRecDepth 100000
set_option maxHeartbeats 16000000
namespace Go.Proofs.YtegcgflhgfmkpaaGreatDoor
open Lib (hid)
open _root_.Go.Proofs.Tryz
open Go.ChangeShapes Go.WideShapes Go.ChangeAt Go.RowKit Go.Shelf
attribute [local go_sem] Oper.semAt_some
def deepF : Nat -> List (Nat × Nd) -> Int × Int
 | _, [] => (0, 0)
 | k, p :: r => if 60 <= p.1 then (11, (k : Int)) else deepF (k + 1) r
theorem deepF_snoc : ∀ (l : List (Nat × Nd)) (k : Nat) (p : Nat × Nd), deepF k (l ++ [p]) = if (deepF k l).1 = 0 /\ 60 <= p.1 then (11, ((k + l.length : Nat) : Int)) else deepF k l
 | [], k, p => by
  by_cases h : 60 <= p.1 <;> simp [deepF, h]
 | q :: r, k, p => by
  rw [List.cons_append, deepF, deepF];by_cases h : 60 <= q.1
  ·simp [h]
  ·rw [if_neg h, if_neg h, deepF_snoc r (k + 1) p, List.length_cons, show k + 1 + r.length = k + (r.length + 1) by omega]
def sizeE (x : Nd) : Int × Int := if 5000 < x.count then (12, 0) else deepF 0 (x.all 0)
theorem fault_results {fn : Func} {p : Tmp} (h : fn.results = #[.cell p 29]) (tmps : Array Value) (W : World) {g : Nat} {x y : Value}
  (hp : tmps.getD p undef = .pointer (some ⟨g, 0, none⟩)) (hg : Blk W g 29 #[x, y]) : (results fn tmps).run prog W = .ok (.agg #[x, y]) W :=
 results_cell_row (P := prog) h tmps W g 29 #[x, y] (0, 0) _ hp hg underlying29 (by rfl) (by kernel_rfl)
def szF (pre : List ItN) : Int × Int := deepF 0 (pre.map plN)
def szI (x : Nd) (w : World) (pre : List ItN) (W : World) (O : Nat -> Prop) : Prop :=
 (O = fun k => w.heap.size < k /\ k < w.heap.size + 3) /\ Blk W (w.heap.size + 1) 29 #[.int .i64 0, .int .i64 0] /\ Blk W (w.heap.size + 2) 29 #[.int .i64 (szF pre).1, .int .i64 (szF pre).2] /\ Kept w W /\ itOk x pre /\ pre.length <= 5000
def szX (x : Nd) (w : World) (c : Code) (pre : List ItN) (W : World) : Prop :=
 c = .exit 0 /\ Blk W (w.heap.size + 1) 29 #[.int .i64 0, .int .i64 0] /\ Blk W (w.heap.size + 2) 29 #[.int .i64 12, .int .i64 0] /\ Kept w W /\ 5000 < x.count
theorem szI.stay {x : Nd} {w : World} {n : Nat} {pre : List ItN} {A B : World} {O : Nat -> Prop} (h : szI x w pre A O) (k : Only (fun k => n <= k /\ ¬ O k) A B) (hn : w.heap.size <= n) : szI x w pre B O := by
 obtain ⟨h1, h2, h3, h4, h5, h6⟩ := h;subst h1;exact ⟨rfl, h2.only k (fun h => h.2 ⟨by omega, by omega⟩), h3.only k (fun h => h.2 ⟨by omega, by omega⟩), h4.only k rfl (fun k h => by have := h.1; omega), h5, h6⟩
theorem szX.stay {x : Nd} {w : World} {c : Code} {n : Nat} {pre : List ItN} {A B : World} (h : szX x w c pre A) (k : Only (fun k => n <= k /\ k < n + 2) A B) (hn : w.heap.size + 3 <= n) : szX x w c pre B := by
 obtain ⟨h1, h2, h3, h4, h5⟩ := h;exact ⟨h1, h2.only k (fun h => by omega), h3.only k (fun h => by omega), h4.only k rfl (fun k h => by omega), h5⟩
theorem size_c (x : Nd) (ad : Option Addr) (ck : Nat) (w : World) (hok : x.ok1) (hk : KidsAt w (.slice ad x.kids.length ck) x.kids) (hcnt : x.count <= 1000000000) :
  Calls prog 20 #[ndV x (.slice ad x.kids.length ck)] w fun e w' => e = .returned (.agg #[.int .i64 (sizeE x).1, .int .i64 (sizeE x).2]) /\ Kept w w' := by
 obtain ⟨W1, hW1⟩ : ∃ W1, ((w.alloc (.cells #[.int .i64 x.kind, .string x.text, .string x.typ, .string x.frm, .int .i64 x.n, .slice ad x.kids.length ck] 24)).alloc (.cells #[.int .i64 0, .int .i64 0] 29)).alloc (.cells #[.int .i64 0, .int .i64 0] 29) = W1 := ⟨_, rfl⟩;obtain ⟨W2, hW2⟩ : ∃ W2, W1.alloc (.cells (ndC x (.slice ad x.kids.length ck)).toArray 24) = W2 := ⟨_, rfl⟩;have k1 : Kept w W1 := by rw [<- hW1]; exact (((Kept.refl w).alloc _).alloc _).alloc _
 have k2 := kpA hW2;have hs1 : W1.heap.size = w.heap.size + 3 := by rw [<- hW1]; simp
 have hs2 : W2.heap.size = w.heap.size + 4 := by rw [<- hW2]; simp [hs1]
 have hc1 : Blk W1 (w.heap.size + 1) 29 #[.int .i64 0, .int .i64 0] := by rw [<- hW1]; exact (Blk.at (by simp)).alloc _
 have hc2 : Blk W1 (w.heap.size + 2) 29 #[.int .i64 0, .int .i64 0] := by rw [<- hW1]; exact Blk.at (by simp)
 have hb2 : Blk W2 W1.heap.size 24 (ndC x (.slice ad x.kids.length ck)).toArray := by rw [<- hW2]; exact Blk.new _ _ _
 have HN := hid (nodes_c x ad ck W1);rw [hW2] at HN;have HK := hid (fun W k => box_kids (W := W) hk k);have HKW := hid (k1.trans k2);have HS1 := hid hs1;have HS2 := hid hs2;have HB2 := hid hb2;have HI0 := hid (show szI x w [] W2 (fun k => w.heap.size < k /\ k < w.heap.size + 3) from ⟨rfl, hc1.kept k2, hc2.kept k2, k1.trans k2, ⟨List.nil_prefix, fun i it h => by simp at h⟩, by simp⟩);have HW1 := hid hW1;have HOK := hid hok;have HC := hid hcnt;have hlab : ∃ q, x.count = q := ⟨_, rfl⟩;clear hW1 hW2 k1 k2 hs1 hs2 hc1 hc2 hb2 hk hok hlab;refine (callsIn_wide (n := 3)).1 (callsIn_of_wp_marks func20 rfl trivial (wpIn_wide.2 ?_) rfl);simp only [ntmps20, List.size_toArray, List.length_cons, List.length_nil, Nat.reduceAdd, Nat.reduceSub, Array.replicate_succ, Array.replicate_zero, List.push_toArray, List.append_toArray, List.nil_append, List.cons_append];go_wp2_with fail;go_step3
 go_wp2_with fail;go_step3
 go_wp2_with fail;rw [HW1.o];refine HN.o.mono ?_;rintro e w2 ⟨rfl, rfl⟩;clear HN HW1;go_wp2_with fail;refine wpIn_wide.1 (wpIn_rangeFunc_ownO (F := Fence.wide) (n := 3) rfl (by omega) (gf := 35) (lb := #[.pointer (some ⟨W1.heap.size, 0, none⟩)]) rfl trivial (enters_of func35 (by kernel_rfl) rfl)
  (encs := encN) (S := itAll x) (Sp := itOk x) (G := itG x w2.heap.size) (b0 := w.heap.size) (fun k => w.heap.size < k /\ k < w.heap.size + 3) (fun k hk => by have := HS2.o; omega)
  (fun Wq hkq hsq => nodes1_o (3 - 1) (by omega) x ad ck W1.heap.size w.heap.size w2.heap.size Wq (HB2.o.kept hkq) HOK.o (HK.o Wq (HKW.o.trans hkq)) (by omega) (by have := HS2.o; omega) HC.o)
  (fun s A B O h k => h.stay k) (fun _ => rfl) (szI x w) (szX x w) (fun s A B O h k => h.stay k (by have := HS2.o; omega)) (fun c s A B h k => h.stay k (by have := HS2.o; omega)) HI0.o
  (fun i W => { tmps := #[ndV x (.slice ad x.kids.length ck), .pointer (some ⟨w.heap.size, 0, none⟩), .pointer (some ⟨w.heap.size + 1, 0, none⟩), .pointer (some ⟨w.heap.size + 1 + 1, 0, none⟩), .pointer (some ⟨W.heap.size, 0, none⟩), ndV x (.slice ad x.kids.length ck), .func (.func 35) #[] #[.pointer (some ⟨W1.heap.size, 0, none⟩)], .agg #[.int .i64 i.1.1, .int .i64 i.1.2], .pointer (some ⟨i.2.1.1, i.2.1.2, none⟩), undef, undef, undef, undef, undef, undef, undef, undef, undef, undef, undef, undef, undef, undef, undef, undef, undef, undef], defers := [] })
  (fun i W => W.alloc (.cells #[.int .i64 i.1.1, .int .i64 i.1.2] 52)) (fun i W => (Kept.refl W).alloc _) ?assign ?body ?done ?stop)
 case assign =>
  intro lr i W K hK
  gi_wp2
  first | exact hK | simpa using hK
 case body =>
  intro lr pre i W0 W O hlr hl0 hob hOl hI hG hsz;obtain ⟨hO, hI1, hI2, hI3, hI4, hI5⟩ := hI;subst hO;have hb5 : Blk W W0.heap.size 52 #[.int .i64 i.1.1, .int .i64 i.1.2] := (Blk.new W0 _ _).only hob (by omega);have d0 := hb5.cell 0;have d1 := hb5.cell 1;have c0 := hI2.cell 0;have c1 := hI2.cell 1;have f0 := hI2.frozen 0;have f1 := hI2.frozen 1;simp only [List.getElem?_toArray, List.getElem?_cons_succ, List.getElem?_cons_zero] at d0 d1 c0 c1;have hat : i.1.1 = pre.length := hG.1.2 pre.length i (by simp);have hcl : pre.length + 1 <= x.count := by
   have h1 := hG.1.1.length_le;rw [List.length_map, Nd.count_all, List.length_append] at h1
   simpa using h1
  have hsn : szF (pre ++ [i]) = if (szF pre).1 = 0 /\ 60 <= i.1.2 then (11, (pre.length : Int)) else szF pre := by
   unfold szF;rw [List.map_append, List.map_singleton, deepF_snoc, List.length_map, Nat.zero_add]; rfl
  have hok2 : itOk x (pre ++ [i]) := hG.1;rw [hat] at d0;obtain ⟨a, ha⟩ : ∃ a, i.1.2 = a := ⟨_, rfl⟩;rw [ha] at d1 hsn;obtain ⟨er, he⟩ : ∃ er, (szF pre).1 = er := ⟨_, rfl⟩;obtain ⟨ea, hea⟩ : ∃ ea, (szF pre).2 = ea := ⟨_, rfl⟩;rw [he] at c0 hsn;rw [hea] at c1;have hz : w.heap.size + 4 < W0.heap.size := by have := HS2.o; omega
  have hom : ∀ u v, Only (fun k => (w.heap.size < k /\ k < w.heap.size + 3) ∨ W0.heap.size <= k) W ((W.setCell ⟨w.heap.size + 2, 0, none⟩ u).setCell ⟨w.heap.size + 2, 1, none⟩ v) := fun u v => ((Only.refl _ W).setCell (.inl (.inl ⟨by simp, by simp⟩)) _).setCell (.inl (.inl ⟨by simp, by simp⟩)) _;have hbp : ∀ u v, Blk ((W.setCell ⟨w.heap.size + 2, 0, none⟩ u).setCell ⟨w.heap.size + 2, 1, none⟩ v) (w.heap.size + 2) 29 #[u, v] := fun u v => by
   have := (hI2.put 0 u).put 1 v
   simpa using this
  have hbr : ∀ u v, Blk ((W.setCell ⟨w.heap.size + 2, 0, none⟩ u).setCell ⟨w.heap.size + 2, 1, none⟩ v) (w.heap.size + 1) 29 #[.int .i64 0, .int .i64 0] := fun u v =>
   (hI1.only (S := (· = w.heap.size + 2)) (((Only.refl _ W).put 0 u).put 1 v) (by omega))
  have hkp : ∀ u v, Kept w ((W.setCell ⟨w.heap.size + 2, 0, none⟩ u).setCell ⟨w.heap.size + 2, 1, none⟩ v) := fun u v => hI3.only (hom u v) rfl (fun k hk => by omega);by_cases h5 : pre.length = 5000
  ·have HX := hid (show szX x w (.exit 0) (pre ++ [i]) ((W.setCell ⟨w.heap.size + 2, 0, none⟩ (.int .i64 12)).setCell ⟨w.heap.size + 2, 1, none⟩ (.int .i64 0)) from ⟨rfl, hbr _ _, hbp _ _, hkp _ _, by omega⟩);have HO := hid (hom (.int .i64 12) (.int .i64 0));have hb : ((pre.length : Int) == 5000) = true := by simp; omega
   clear hI1 hI2 hI3 hI4 hI5 hG hob HI0 hb5 hsn hok2 hom hbp hbr hkp he hea h5 hat ha
   gi_wp2
   exact ⟨HO.o, HX.o⟩
  ·have hb : ((pre.length : Int) == 5000) = false := by simp; omega
   have hl2 : (pre ++ [i]).length <= 5000 := by simp; omega
   by_cases h60 : 60 <= a
   ·have hgb : decide ((60 : Int) <= (a : Int)) = true := decide_eq_true (by omega);by_cases h0 : er = 0
    ·rw [if_pos ⟨h0, h60⟩] at hsn;have HR := hid (show szI x w (pre ++ [i]) ((W.setCell ⟨w.heap.size + 2, 0, none⟩ (.int .i64 11)).setCell ⟨w.heap.size + 2, 1, none⟩ (.int .i64 (pre.length : Int))) (fun k => w.heap.size < k /\ k < w.heap.size + 3) from ⟨rfl, hbr _ _, by rw [hsn]; exact hbp _ _, hkp _ _, hok2, hl2⟩);have HO := hid (hom (.int .i64 11) (.int .i64 (pre.length : Int)));have hb0 : (er == 0) = true := by simp [h0]
     clear hI1 hI2 hI3 hI4 hI5 hG hob HI0 hb5 hsn hok2 hom hbp hbr hkp he hea h5 hat ha h0
     gi_wp2
     exact ⟨HO.o, _, fun k hk => .inl hk, HR.o⟩
    ·rw [if_neg (fun h => h0 h.1)] at hsn;have HR := hid (show szI x w (pre ++ [i]) W (fun k => w.heap.size < k /\ k < w.heap.size + 3) from ⟨rfl, hI1, by rw [hsn]; exact hI2, hI3, hok2, hl2⟩);have hb0 : (er == 0) = false := by simp [h0]
     clear hI1 hI2 hI3 hI4 hI5 hG hob HI0 hb5 hsn hok2 hom hbp hbr hkp he hea h5 hat ha h0
     gi_wp2
     exact ⟨Only.refl _ _, _, fun k hk => .inl hk, HR.o⟩
   ·have hgb : decide ((60 : Int) <= (a : Int)) = false := decide_eq_false (by omega);rw [if_neg (fun h => h60 h.2)] at hsn;have HR := hid (show szI x w (pre ++ [i]) W (fun k => w.heap.size < k /\ k < w.heap.size + 3) from ⟨rfl, hI1, by rw [hsn]; exact hI2, hI3, hok2, hl2⟩);clear hI1 hI2 hI3 hI4 hI5 hG hob HI0 hb5 hsn hok2 hom hbp hbr hkp he hea h5 hat ha
    gi_wp2
    refine ⟨Only.refl _ _, _, fun k hk => .inl hk, HR.o⟩
 case done =>
  rintro D xs W O hD hS ⟨hO, hI1, hI2, hI3, hI4, hI5⟩ hK;subst hO;have c0 := hI2.cell 0;have c1 := hI2.cell 1;simp only [List.getElem?_toArray, List.getElem?_cons_succ, List.getElem?_cons_zero] at c0 c1;have hsz : sizeE x = szF xs := by
   unfold sizeE szF;rw [hS.1, if_neg];have h1 := congrArg List.length hS.1;rw [List.length_map, Nd.count_all] at h1;omega
  rw [<- hsz] at c0 c1;obtain ⟨f0, f1⟩ := (⟨hI1.frozen 0, hI1.frozen 1⟩ : W.frozen? ⟨w.heap.size + 1, 0, none⟩ = false /\ W.frozen? ⟨w.heap.size + 1, 1, none⟩ = false);have e0 := hI1.cell 0;have e1 := hI1.cell 1;simp only [List.getElem?_toArray, List.getElem?_cons_succ, List.getElem?_cons_zero] at e0 e1;have b3 := (hI1.put 0 (.int .i64 (sizeE x).1)).put 1 (.int .i64 (sizeE x).2);have ho3 : Only (· = w.heap.size + 1) W ((W.setCell ⟨w.heap.size + 1, 0, none⟩ (.int .i64 (sizeE x).1)).setCell ⟨w.heap.size + 1, 1, none⟩ (.int .i64 (sizeE x).2)) := ((Only.refl _ W).put 0 _).put 1 _;have hD2 : D = w.heap.size + 4 := by have := HS2.o; omega
  have hK2 := ho3.same hK (by omega);have hd : Only (· = D) ((W.setCell ⟨w.heap.size + 1, 0, none⟩ (.int .i64 (sizeE x).1)).setCell ⟨w.heap.size + 1, 1, none⟩ (.int .i64 (sizeE x).2)) (((W.setCell ⟨w.heap.size + 1, 0, none⟩ (.int .i64 (sizeE x).1)).setCell ⟨w.heap.size + 1, 1, none⟩ (.int .i64 (sizeE x).2)).putObj D (.deferred none)) := (Only.refl (· = D) _).putObj (.inl rfl) _;have HB := hid (show Blk (((W.setCell ⟨w.heap.size + 1, 0, none⟩ (.int .i64 (sizeE x).1)).setCell ⟨w.heap.size + 1, 1, none⟩ (.int .i64 (sizeE x).2)).putObj D (.deferred none)) (w.heap.size + 1) 29 #[.int .i64 (sizeE x).1, .int .i64 (sizeE x).2] from by have := b3.only hd (by omega); simpa using this);have HZ := hid ((hI3.only ho3 rfl (fun k hk => by omega)).only hd rfl (fun k hk => by omega));have HK2 := hid hK2;clear hI1 hI2 hI3 hI4 hI5 hsz b3 ho3 hK hK2 hd hD hD2 hS;go_wp2_with fail;rw [Exit.noGoto_ret];refine ⟨by simp, .inl ⟨_, _, rfl, run_takeDeferred HK2.o, ?_⟩⟩;exact ⟨_, fault_results (by rfl) _ _ rfl HB.o, rfl, HZ.o⟩
 case stop =>
  rintro D cd pre W hD hpre ⟨rfl, h1, h2, h3, h4⟩ hK;have c0 := h2.cell 0;have c1 := h2.cell 1;obtain ⟨f0, f1⟩ := (⟨h1.frozen 0, h1.frozen 1⟩ : W.frozen? ⟨w.heap.size + 1, 0, none⟩ = false /\ W.frozen? ⟨w.heap.size + 1, 1, none⟩ = false);have e0 := h1.cell 0;have e1 := h1.cell 1;simp only [List.getElem?_toArray, List.getElem?_cons_succ, List.getElem?_cons_zero] at c0 c1 e0 e1;have hsz : sizeE x = (12, 0) := by unfold sizeE; rw [if_pos h4]
  have b3 := (h1.put 0 (.int .i64 12)).put 1 (.int .i64 0);have ho3 : Only (· = w.heap.size + 1) W ((W.setCell ⟨w.heap.size + 1, 0, none⟩ (.int .i64 12)).setCell ⟨w.heap.size + 1, 1, none⟩ (.int .i64 0)) := ((Only.refl _ W).put 0 _).put 1 _;have hD2 : D = w.heap.size + 4 := by have := HS2.o; omega
  have hK2 := ho3.same hK (by omega);have hd : Only (· = D) ((W.setCell ⟨w.heap.size + 1, 0, none⟩ (.int .i64 12)).setCell ⟨w.heap.size + 1, 1, none⟩ (.int .i64 0)) (((W.setCell ⟨w.heap.size + 1, 0, none⟩ (.int .i64 12)).setCell ⟨w.heap.size + 1, 1, none⟩ (.int .i64 0)).putObj D (.deferred none)) := (Only.refl (· = D) _).putObj (.inl rfl) _;have HB := hid (show Blk (((W.setCell ⟨w.heap.size + 1, 0, none⟩ (.int .i64 12)).setCell ⟨w.heap.size + 1, 1, none⟩ (.int .i64 0)).putObj D (.deferred none)) (w.heap.size + 1) 29 #[.int .i64 12, .int .i64 0] from by have := b3.only hd (by omega); simpa using this);have HZ := hid ((h3.only ho3 rfl (fun k hk => by omega)).only hd rfl (fun k hk => by omega));have HK2 := hid hK2;have HSZ := hid hsz;clear h1 h2 h3 h4 b3 ho3 hK hK2 hd hD hD2 hsz
  gi_wp2
  go_wp2_with fail;rw [Exit.noGoto_ret];refine ⟨by simp, .inl ⟨_, _, rfl, run_takeDeferred HK2.o, ?_⟩⟩;exact ⟨_, fault_results (by rfl) _ _ rfl HB.o, by rw [HSZ.o], HZ.o⟩
end Go.Proofs.YtegcgflhgfmkpaaGreatDoor
