/- Texts. -/
import Derived.Test.YtegcgflhgfmkpaaGreatDoorUTkm
import Derived.Test.YtegcgflhgfmkpaaGreatDoorUNds
import Derived.Test.YtegcgflhgfmkpaaGreatDoorUw27
import Derived.Test.YtegcgflhgfmkpaaGreatDoorUw28
import Derived.Test.YtegcgflhgfmkpaaGreatDoorUw6
set_option linter.unusedSimpArgs false
set_option linter.unusedVariables false
set_option maxRecDepth 100000
set_option maxHeartbeats 16000000
namespace Go.Proofs.YtegcgflhgfmkpaaGreatDoor
open Lib (hid)
open Go.ChangeShapes Go.WideShapes Go.ChangeAt Go.RowKit Go.Shelf
attribute [local go_sem] Oper.semAt_some
def chkF : Nat -> List (Nat × Nd) -> Int × Int
 | _, [] => (0, 0)
 | k, p :: r => if k = 0 /\ p.2.kind ≠ 1 then (5, 0) else if nodeE p.2 ≠ 0 then (nodeE p.2, (k : Int)) else chkF (k + 1) r
def checkE (x : Nd) : Int × Int := if (sizeE x).1 ≠ 0 then sizeE x else chkF 0 (x.all 0)
def goodC (k : Nat) (l : List (Nat × Nd)) : Prop := ∀ i p, l[i]? = some p -> ¬ (k + i = 0 /\ p.2.kind ≠ 1) /\ nodeE p.2 = 0
theorem chkF_app : ∀ (l : List (Nat × Nd)) (k : Nat) (m : List (Nat × Nd)), goodC k l -> chkF k (l ++ m) = chkF (k + l.length) m
 | [], k, m, _ => by simp
 | p :: r, k, m, h => by
  have h0 := h 0 p rfl;rw [List.cons_append, chkF, if_neg (by simpa using h0.1), if_neg (by simp [h0.2]), chkF_app r (k + 1) m (fun i q hq => by have := h (i + 1) q (by simpa using hq); rw [show k + 1 + i = k + (i + 1) by omega]; exact this), List.length_cons, show k + 1 + r.length = k + (r.length + 1) by omega]
theorem goodC_snoc {l : List (Nat × Nd)} {p : Nat × Nd} (h : goodC 0 l) (h1 : ¬ (l.length = 0 /\ p.2.kind ≠ 1)) (h2 : nodeE p.2 = 0) : goodC 0 (l ++ [p]) := fun i q hq => by
 rw [List.getElem?_append] at hq
 split at hq
 ·exact h i q hq
 ·have hi : i - l.length = 0 := by
   have := (List.getElem?_eq_some_iff.1 hq).1;simp at this; omega
  rw [hi] at hq;simp at hq;subst hq;exact ⟨by rw [Nat.zero_add, show i = l.length by omega]; exact h1, h2⟩
theorem deepF_zero : ∀ (l : List (Nat × Nd)) (k : Nat), (deepF k l).1 = 0 -> deepF k l = (0, 0)
 | [], k, _ => rfl
 | p :: r, k, h => by
  rw [deepF] at h ⊢
  split at h
  ·cases h
  ·rename_i hp; rw [if_neg hp]; exact deepF_zero r (k + 1) h
theorem sizeE_zero {x : Nd} (h : (sizeE x).1 = 0) : sizeE x = (0, 0) := by
 unfold sizeE at h ⊢
 split at h
 ·cases h
 ·rename_i hp; rw [if_neg hp]; exact deepF_zero _ _ h
def ckI (x : Nd) (wb : World) (fb : Nat) (pre : List ItN) (W : World) (O : Nat -> Prop) : Prop := (O = fun k => k = fb) /\ Kept wb W /\ itOk x pre /\ goodC 0 (pre.map plN)
def ckX (x : Nd) (w : World) (rb fb : Nat) (c : Code) (pre : List ItN) (W : World) : Prop :=
 c = .exit 0 /\ Blk W rb 29 #[.int .i64 0, .int .i64 0] /\ Blk W fb 29 #[.int .i64 (checkE x).1, .int .i64 (checkE x).2] /\ Kept w W
theorem ckI.stay {x : Nd} {wb : World} {fb n : Nat} {pre : List ItN} {A B : World} {O : Nat -> Prop} (h : ckI x wb fb pre A O) (k : Only (fun k => n <= k /\ ¬ O k) A B) (hn : wb.heap.size <= n) : ckI x wb fb pre B O := by
 obtain ⟨h1, h2, h3, h4⟩ := h;exact ⟨h1, h2.only k rfl (fun k h => by have := h.1; omega), h3, h4⟩
theorem ckX.stay {x : Nd} {w : World} {rb fb : Nat} {c : Code} {n : Nat} {pre : List ItN} {A B : World} (h : ckX x w rb fb c pre A) (k : Only (fun k => n <= k /\ k < n + 2) A B) (hr : rb < n) (hf : fb < n) (hn : w.heap.size <= n) : ckX x w rb fb c pre B := by
 obtain ⟨h1, h2, h3, h4⟩ := h;exact ⟨h1, h2.only k (fun h => by omega), h3.only k (fun h => by omega), h4.only k rfl (fun k h => by omega)⟩
theorem put2_blk {W : World} {g : Nat} {t : TypeId} {a b u v : Value} (h : Blk W g t #[a, b]) : Blk ((W.setCell ⟨g, 0, none⟩ u).setCell ⟨g, 1, none⟩ v) g t #[u, v] := by
 have := (h.put 0 u).put 1 v
 simpa using this
theorem put2_only (W : World) (g : Nat) (u v : Value) : Only (· = g) W ((W.setCell ⟨g, 0, none⟩ u).setCell ⟨g, 1, none⟩ v) := ((Only.refl _ W).put 0 u).put 1 v
theorem all_count (x : Nd) : ∀ a, ∀ p ∈ x.all a, p.2.count <= x.count := by
 refine Nd.ind (P := fun x => ∀ a, ∀ p ∈ x.all a, p.2.count <= x.count) (fun x ih a p hp => ?_) x;rw [Nd.all_eq] at hp;rcases List.mem_cons.1 hp with rfl | hp
 ·exact Nat.le_refl _
 ·have : ∀ (l : List Nd) (a : Nat), (∀ y ∈ l, ∀ a, ∀ p ∈ y.all a, p.2.count <= y.count) -> ∀ p ∈ Nd.allL l a, p.2.count <= Nd.countL l := by
   intro l
   induction l with
   | nil => intro a _ p hp; rw [Nd.allL_nil] at hp; cases hp
   | cons y r ihr =>
    intro a h p hp;rw [Nd.allL_cons] at hp;rw [Nd.countL_cons];rcases List.mem_append.1 hp with hp | hp
    ·have := h y (by simp) a p hp; omega
    ·have := ihr a (fun z hz => h z (List.mem_cons_of_mem _ hz)) p hp; omega
  have := this x.kids (a + 1) ih p hp;rw [Nd.count_eq x]; omega
theorem all_kids (x : Nd) (a : Nat) (y : Nd) (h : y ∈ (x.all a).map (·.2)) : y.kids.length <= x.count := by
 obtain ⟨p, hp, rfl⟩ := List.mem_map.1 h;have h1 := all_count x a p hp;have h2 := Nd.count_eq p.2;have h3 := Nd.len_le_countL p.2.kids;omega
theorem check_c (x : Nd) (ad : Option Addr) (ck : Nat) (w : World) (hT : Tb w) (hok : x.ok1) (hk : KidsAt w (.slice ad x.kids.length ck) x.kids) (hcnt : x.count <= 1000000000) :
  Calls Tryz.prog 7 #[ndV x (.slice ad x.kids.length ck)] w fun e w' => e = .returned (.agg #[.int .i64 (checkE x).1, .int .i64 (checkE x).2]) /\ Kept w w' := by
 obtain ⟨W1, hW1⟩ : ∃ W1, (w.alloc (.cells #[.int .i64 x.kind, .string x.text, .string x.typ, .string x.frm, .int .i64 x.n, .slice ad x.kids.length ck] 24)).alloc (.cells #[.int .i64 0, .int .i64 0] 29) = W1 := ⟨_, rfl⟩;have k1 : Kept w W1 := by rw [<- hW1]; exact ((Kept.refl w).alloc _).alloc _
 have hs1 : W1.heap.size = w.heap.size + 2 := by rw [<- hW1]; simp
 have hbx : Blk W1 w.heap.size 24 (ndC x (.slice ad x.kids.length ck)).toArray := by rw [<- hW1]; exact (Blk.new _ _ _).alloc _
 have hrb : Blk W1 (w.heap.size + 1) 29 #[.int .i64 0, .int .i64 0] := by rw [<- hW1]; exact Blk.at (by simp)
 have HSZ := hid (size_c x ad ck W1 hok (KidsD.kept hk k1) hcnt);have HBX := hid hbx;have HRB := hid hrb;have HK1 := hid k1;have HS1 := hid hs1;have HW1 := hid hW1;have HOK := hid hok;have HC := hid hcnt;have HT := hid hT;have HKD := hid hk;clear hW1 k1 hs1 hbx hrb hok hk hT;refine (callsIn_wide (n := 3)).1 (callsIn_of_wp_marks Tryz.func7 rfl trivial (wpIn_wide.2 ?_) rfl);simp only [Tryz.ntmps7, List.size_toArray, List.length_cons, List.length_nil, Nat.reduceAdd, Nat.reduceSub, Array.replicate_succ, Array.replicate_zero, List.push_toArray, List.append_toArray, List.nil_append, List.cons_append];go_wp2_with fail;go_step3
 go_wp2_with fail;rw [HW1.o];refine HSZ.o.mono ?_;rintro e w3 ⟨rfl, k3⟩;clear HSZ HW1;obtain ⟨se, hse⟩ : ∃ se, (sizeE x).1 = se := ⟨_, rfl⟩;obtain ⟨sa, hsa⟩ : ∃ sa, (sizeE x).2 = sa := ⟨_, rfl⟩;have HSE := hid hse;have HSA := hid hsa;rw [hse, hsa];clear hse hsa;obtain ⟨W4, hW4⟩ : ∃ W4, w3.alloc (.cells #[.int .i64 se, .int .i64 sa] 29) = W4 := ⟨_, rfl⟩;have k4 := kpA hW4;have hfb := bkA hW4;have hs4 : W4.heap.size = w3.heap.size + 1 := by rw [<- hW4]; simp
 have hz3 : w.heap.size + 2 <= w3.heap.size := by have := k3.size; have := HS1.o; omega
 have HK4 := hid (HK1.o.trans (k3.trans k4));have HRB4 := hid (HRB.o.kept (k3.trans k4));have HBX4 := hid (HBX.o.kept (k3.trans k4));have HFB := hid hfb;have HS4 := hid hs4;have HZ3 := hid hz3;have HW4 := hid hW4;have q0 := hfb.cell 0;have q1 := hfb.cell 1;have r0 := HRB4.o.cell 0;have r1 := HRB4.o.cell 1;have rf0 := HRB4.o.frozen 0;have rf1 := HRB4.o.frozen 1;simp only [List.getElem?_toArray, List.getElem?_cons_succ, List.getElem?_cons_zero] at q0 q1 r0 r1;clear hW4 k4 k3 hfb hs4 hz3 HRB HBX;by_cases hse0 : se = 0
 ·have hsz0 : sizeE x = (0, 0) := sizeE_zero (by rw [HSE.o, hse0]);have HCE := hid (show checkE x = chkF 0 (x.all 0) by unfold checkE; rw [if_neg (by rw [HSE.o, hse0]; simp)]);obtain rfl : sa = 0 := by rw [<- HSA.o, hsz0]
  subst hse0;have HND := hid (needs_c W4);clear hsz0 HSE HSA;go_wp2_with fail;rw [HW4.o];refine HND.o.mono ?_;rintro e w5 ⟨ta, tc, rfl, hnd, k5⟩;obtain ⟨W6, hW6⟩ : ∃ W6, w5.alloc (.cells #[.slice ta needsT.length tc] 46) = W6 := ⟨_, rfl⟩;have k6 := kpA hW6;have htb := bkA hW6;have hs6 : W6.heap.size = w5.heap.size + 1 := by rw [<- hW6]; simp
  have hz5 := k5.size;obtain ⟨W7, hW7⟩ : ∃ W7, W6.alloc (.cells (ndC x (.slice ad x.kids.length ck)).toArray 24) = W7 := ⟨_, rfl⟩;have k7 := kpA hW7;have hs7 : W7.heap.size = w5.heap.size + 2 := by rw [<- hW7]; simp [hs6]
  have hbn : Blk W7 W6.heap.size 24 (ndC x (.slice ad x.kids.length ck)).toArray := by rw [<- hW7]; exact Blk.new _ _ _
  have hbx6 := HBX4.o.kept (k5.trans k6);obtain ⟨g0, g1, g2, g3, g4, g5⟩ : W6.cell? ⟨w.heap.size, 0, none⟩ = some (.int .i64 x.kind) /\ W6.cell? ⟨w.heap.size, 1, none⟩ = some (.string x.text) /\ W6.cell? ⟨w.heap.size, 2, none⟩ = some (.string x.typ) /\ W6.cell? ⟨w.heap.size, 3, none⟩ = some (.string x.frm) /\ W6.cell? ⟨w.heap.size, 4, none⟩ = some (.int .i64 x.n) /\ W6.cell? ⟨w.heap.size, 5, none⟩ = some (.slice ad x.kids.length ck) :=
   (n6 hbx6)
  have HN := hid (nodes_c x ad ck W6);rw [hW7] at HN;have HKB := hid ((k5.trans k6).trans k7);have HKW := hid (HK4.o.trans HKB.o);have HTB := hid (htb.kept k7);have HND7 := hid (NeedsR.kept hnd (k6.trans k7));have HB7 := hid hbn;have HSS := hid (show w.heap.size + 2 <= w3.heap.size /\ W4.heap.size = w3.heap.size + 1 /\ W4.heap.size <= w5.heap.size /\ W6.heap.size = w5.heap.size + 1 /\ W7.heap.size = w5.heap.size + 2 from ⟨HZ3.o, HS4.o, hz5, hs6, hs7⟩);have HKK := hid (fun W k => box_kids (W := W) HKD.o k);have HI0 := hid (show ckI x W7 w3.heap.size [] W7 (fun k => k = w3.heap.size) from ⟨rfl, Kept.refl _, ⟨List.nil_prefix, fun i it h => by simp at h⟩, fun i p h => by simp at h⟩);have HW6 := hid hW6;clear HND hW6 hW7 k5 k6 k7 htb hs6 hs7 hz5 hbn hbx6 hnd q0 q1 r0 r1 rf0 rf1;go_wp2_with (rw [HW6.o]);go_step3
  go_wp2_with fail;refine HN.o.mono ?_;rintro e w7 ⟨rfl, rfl⟩;clear HN HW6 g0 g1 g2 g3 g4 g5;go_wp2_with fail;refine wpIn_wide.1 (wpIn_rangeFunc_ownO (F := Fence.wide) (n := 3) rfl (by omega) (gf := 35) (lb := #[.pointer (some ⟨W6.heap.size, 0, none⟩)]) rfl trivial (enters_of Tryz.func35 (by kernel_rfl) rfl)
   (encs := encN) (S := itAll x) (Sp := itOk x) (G := itG x w7.heap.size) (b0 := w.heap.size) (fun k => k = w3.heap.size) (fun k hk => by have := HSS.o; omega)
   (fun Wq hkq hsq => nodes1_o (3 - 1) (by omega) x ad ck W6.heap.size w.heap.size w7.heap.size Wq (HB7.o.kept hkq) HOK.o (HKK.o Wq (HKW.o.trans hkq)) (by omega) (by have := HSS.o; omega) HC.o)
   (fun s A B O h k => h.stay k) (fun _ => rfl) (ckI x w7 w3.heap.size) (ckX x w (w.heap.size + 1) w3.heap.size) (fun s A B O h k => h.stay k (by omega)) (fun c s A B h k => h.stay k (by have := HSS.o; omega) (by have := HSS.o; omega) (by have := HSS.o; omega)) HI0.o
   (fun i W => { tmps := #[ndV x (.slice ad x.kids.length ck), .pointer (some ⟨w.heap.size, 0, none⟩), .pointer (some ⟨w.heap.size + 1, 0, none⟩), .pointer (some ⟨w3.heap.size, 0, none⟩), .pointer (some ⟨w5.heap.size, 0, none⟩), .pointer (some ⟨W.heap.size, 0, none⟩), .pointer (some ⟨i.2.1.1, i.2.1.2, none⟩), undef, ndV x (.slice ad x.kids.length ck), .agg #[.int .i64 0, .int .i64 0], .pointer (some ⟨w3.heap.size, 0, none⟩), .int .i64 0, .bool false, undef, .slice ta needsT.length tc, ndV x (.slice ad x.kids.length ck), .func (.func 35) #[] #[.pointer (some ⟨W6.heap.size, 0, none⟩)], .agg #[.int .i64 i.1.1, .int .i64 i.1.2], .pointer (some ⟨i.2.1.1, i.2.1.2, none⟩), undef, undef, undef, undef, undef, undef, undef, undef, undef, undef, undef, undef, undef, undef, undef, undef, undef, undef, undef, undef, undef, undef, undef], defers := [] })
   (fun i W => W.alloc (.cells #[.int .i64 i.1.1, .int .i64 i.1.2] 52)) (fun i W => (Kept.refl W).alloc _) ?assign ?body ?done ?stop)
  case assign =>
   intro lr i W K hK
   gi_wp2
   first | exact hK | simpa using hK
  case body =>
   intro lr pre i W0 W O hlr hl0 hob hOl hI hG hsz;obtain ⟨hO, hI1, hI2, hI3⟩ := hI;subst hO;obtain ⟨D, hnd, hDO, hDl⟩ := hG.2 pre i rfl;have hb5 : Blk W W0.heap.size 52 #[.int .i64 i.1.1, .int .i64 i.1.2] := (Blk.new W0 _ _).only hob (by omega);have hat : i.1.1 = pre.length := hG.1.2 pre.length i (by simp);obtain ⟨y, hy⟩ : ∃ y, i.2.2 = y := ⟨_, rfl⟩;have hpl : pre.length + 1 <= x.count /\ i.2.2 ∈ (x.all 0).map (·.2) := by
    have h1 := hG.1.1.length_le;rw [List.length_map, Nd.count_all, List.length_append] at h1;exact ⟨by simpa using h1, List.mem_map.2 ⟨plN i, hG.1.1.subset (by simp), rfl⟩⟩
   have hkl : i.2.2.kids.length <= 1000000000000 := by
    have h1 := all_kids x 0 _ hpl.2;have := HC.o;omega
   have hall := hG.1.1;obtain ⟨rest, hrest⟩ := hall;have hce : checkE x = chkF pre.length ((i.1.2, i.2.2) :: rest) := by
    rw [HCE.o, <- hrest, List.map_append, List.append_assoc, chkF_app _ 0 _ hI3, List.length_map, Nat.zero_add]; rfl
   have HNC := hid (fun Wz (k : Kept W Wz) => node_c i.2.1.1 i.2.1.2 i.2.2 ta tc Wz (HT.o.kept (HKW.o.trans (hI1.trans k))) (hnd.at.kept k) (NeedsR.kept HND7.o (hI1.trans k)) hkl);rw [hat] at hb5;rw [hy] at HNC hce hnd;have hgs : ¬ (pre.length = 0 /\ y.kind ≠ 1) -> nodeE y = 0 -> goodC 0 ((pre ++ [i]).map plN) := fun h1 h2 => by
    rw [List.map_append, List.map_singleton];exact goodC_snoc hI3 (by rw [List.length_map]; show ¬ (pre.length = 0 /\ i.2.2.kind ≠ 1); rw [hy]; exact h1) (by show nodeE i.2.2 = 0; rw [hy]; exact h2)
   obtain ⟨_, _, ⟨n0, _⟩, _⟩ := hnd.cells;have t0 := (HTB.o.kept hI1).cell 0;have p0 := hb5.cell 0;have p1 := hb5.cell 1;have f0 := (HFB.o.kept (HKB.o.trans hI1));have fz0 := f0.frozen 0;have fz1 := f0.frozen 1;have fc0 := f0.cell 0;have fc1 := f0.cell 1;simp only [List.getElem?_toArray, List.getElem?_cons_succ, List.getElem?_cons_zero] at t0 p0 p1 fc0 fc1;have HP5 := hid hb5;have HF0 := hid f0;have HR0 := hid (HRB4.o.kept (HKB.o.trans hI1));have HII := hid hI1;have HOK2 := hid hG.1;have HGS := hid hgs;have HCC := hid hce;have hzz : w3.heap.size < W0.heap.size /\ w.heap.size + 1 < w3.heap.size /\ w5.heap.size < W0.heap.size /\ w3.heap.size < w5.heap.size := by have := HSS.o; omega
   have hz1 : w3.heap.size < W0.heap.size := hzz.1;clear hI1 hI2 hI3 hG hob HI0 hb5 f0 hgs hce hrest hpl hkl hat hnd hDO hDl
   gi_wp2
   refine ⟨trivial, (callsIn_wide.2 (HNC.o _ (Kept.refl _))).mono ?_⟩;rintro e w8 ⟨rfl, k8⟩;have n0 := k8.cell n0;have p0 := k8.cell p0;have p1 := k8.cell p1;have fc0 := k8.cell fc0;have fc1 := k8.cell fc1;have fz0 := (HF0.o.kept k8).frozen 0;have fz1 := (HF0.o.kept k8).frozen 1;by_cases hg1 : pre.length = 0 /\ y.kind ≠ 1
   ·have hc1 : checkE x = (5, 0) := by rw [HCC.o, chkF, if_pos hg1]
    have hb0 : ((pre.length : Int) == 0) = true := by simp; exact List.length_eq_zero_iff.1 hg1.1
    have hb1 : (y.kind != 1) = true := by simp [hg1.2]
    clear hg1;have HX := hid (show ckX x w (w.heap.size + 1) w3.heap.size (.exit 0) (pre ++ [i]) ((w8.setCell ⟨w3.heap.size, 0, none⟩ (.int .i64 5)).setCell ⟨w3.heap.size, 1, none⟩ (.int .i64 0)) from
     ⟨rfl, (HR0.o.kept k8).only (put2_only w8 w3.heap.size _ _) (by omega), by rw [hc1]; exact put2_blk (HF0.o.kept k8), (HKW.o.trans (HII.o.trans k8)).only (put2_only w8 w3.heap.size _ _) rfl (fun k hk => by omega)⟩)
    have HO := hid (show Only (fun k => (k = w3.heap.size) ∨ W0.heap.size <= k) W ((w8.setCell ⟨w3.heap.size, 0, none⟩ (.int .i64 5)).setCell ⟨w3.heap.size, 1, none⟩ (.int .i64 0)) from (Only.of_kept k8).trans ((put2_only w8 w3.heap.size _ _).mono fun k _ h => .inl h));clear hzz k8 HNC HGS HCC
    gi_wp2
    exact ⟨HO.o, HX.o⟩
   ·by_cases he0 : nodeE y = 0
    ·have heb : (nodeE y != 0) = false := by simp [he0]
     by_cases hp0 : pre.length = 0
     ·have hk1 : y.kind = 1 := Classical.byContradiction fun h => hg1 ⟨hp0, h⟩;have hb0 : ((pre.length : Int) == 0) = true := by rw [hp0]; rfl
      have hb1 : (y.kind != 1) = false := by simp [hk1]
      clear hk1 hp0;have HR := hid (show ckI x w7 w3.heap.size (pre ++ [i]) w8 (fun k => k = w3.heap.size) from ⟨rfl, HII.o.trans k8, HOK2.o, HGS.o hg1 he0⟩);have HO := hid (show Only (fun k => (k = w3.heap.size) ∨ W0.heap.size <= k) W w8 from Only.of_kept k8);clear hzz k8 HNC HGS HCC he0 hg1
      gi_wp2
      exact ⟨HO.o, _, fun k hk => .inl hk, HR.o⟩
     ·have hb0 : ((pre.length : Int) == 0) = false := by simp; intro h; exact hp0 (by rw [h]; rfl)
      clear hp0;have HR := hid (show ckI x w7 w3.heap.size (pre ++ [i]) w8 (fun k => k = w3.heap.size) from ⟨rfl, HII.o.trans k8, HOK2.o, HGS.o hg1 he0⟩);have HO := hid (show Only (fun k => (k = w3.heap.size) ∨ W0.heap.size <= k) W w8 from Only.of_kept k8);clear hzz k8 HNC HGS HCC he0 hg1
      gi_wp2
      exact ⟨HO.o, _, fun k hk => .inl hk, HR.o⟩
    ·have heb : (nodeE y != 0) = true := by simp [he0]
     have hc2 : checkE x = (nodeE y, (pre.length : Int)) := by rw [HCC.o, chkF, if_neg hg1, if_pos he0]
     clear he0;by_cases hp0 : pre.length = 0
     ·have hk1 : y.kind = 1 := Classical.byContradiction fun h => hg1 ⟨hp0, h⟩;have hb0 : ((pre.length : Int) == 0) = true := by rw [hp0]; rfl
      have hb1 : (y.kind != 1) = false := by simp [hk1]
      clear hk1 hp0;have HX := hid (show ckX x w (w.heap.size + 1) w3.heap.size (.exit 0) (pre ++ [i]) ((w8.setCell ⟨w3.heap.size, 0, none⟩ (.int .i64 (nodeE y))).setCell ⟨w3.heap.size, 1, none⟩ (.int .i64 (pre.length : Int))) from
       ⟨rfl, (HR0.o.kept k8).only (put2_only w8 w3.heap.size _ _) (by omega), by rw [hc2]; exact put2_blk (HF0.o.kept k8), (HKW.o.trans (HII.o.trans k8)).only (put2_only w8 w3.heap.size _ _) rfl (fun k hk => by omega)⟩)
      have HO := hid (show Only (fun k => (k = w3.heap.size) ∨ W0.heap.size <= k) W ((w8.setCell ⟨w3.heap.size, 0, none⟩ (.int .i64 (nodeE y))).setCell ⟨w3.heap.size, 1, none⟩ (.int .i64 (pre.length : Int))) from (Only.of_kept k8).trans ((put2_only w8 w3.heap.size _ _).mono fun k _ h => .inl h));clear hzz k8 HNC HGS HCC
      gi_wp2
      exact ⟨HO.o, HX.o⟩
     ·have hb0 : ((pre.length : Int) == 0) = false := by simp; intro h; exact hp0 (by rw [h]; rfl)
      clear hp0;have HX := hid (show ckX x w (w.heap.size + 1) w3.heap.size (.exit 0) (pre ++ [i]) ((w8.setCell ⟨w3.heap.size, 0, none⟩ (.int .i64 (nodeE y))).setCell ⟨w3.heap.size, 1, none⟩ (.int .i64 (pre.length : Int))) from
       ⟨rfl, (HR0.o.kept k8).only (put2_only w8 w3.heap.size _ _) (by omega), by rw [hc2]; exact put2_blk (HF0.o.kept k8), (HKW.o.trans (HII.o.trans k8)).only (put2_only w8 w3.heap.size _ _) rfl (fun k hk => by omega)⟩)
      have HO := hid (show Only (fun k => (k = w3.heap.size) ∨ W0.heap.size <= k) W ((w8.setCell ⟨w3.heap.size, 0, none⟩ (.int .i64 (nodeE y))).setCell ⟨w3.heap.size, 1, none⟩ (.int .i64 (pre.length : Int))) from (Only.of_kept k8).trans ((put2_only w8 w3.heap.size _ _).mono fun k _ h => .inl h));clear hzz k8 HNC HGS HCC
      gi_wp2
      exact ⟨HO.o, HX.o⟩
  case done =>
   rintro D xs W O hD hS ⟨hO, hI1, hI2, hI3⟩ hK;subst hO;have hce : checkE x = (0, 0) := by
    rw [HCE.o, <- hS.1];have := chkF_app (xs.map plN) 0 [] hI3;rw [List.append_nil] at this;rw [this]; rfl
   have h1 := HRB4.o.kept (HKB.o.trans hI1);have h2 := HFB.o.kept (HKB.o.trans hI1);have c0 := h2.cell 0;have c1 := h2.cell 1;obtain ⟨f0, f1⟩ := (⟨h1.frozen 0, h1.frozen 1⟩ : W.frozen? ⟨w.heap.size + 1, 0, none⟩ = false /\ W.frozen? ⟨w.heap.size + 1, 1, none⟩ = false);have e0 := h1.cell 0;have e1 := h1.cell 1;simp only [List.getElem?_toArray, List.getElem?_cons_succ, List.getElem?_cons_zero] at c0 c1 e0 e1;have hss := HSS.o;have ho3 := put2_only W (w.heap.size + 1) (.int .i64 0) (.int .i64 0);have hK2 := ho3.same hK (by omega);have hd : Only (· = D) ((W.setCell ⟨w.heap.size + 1, 0, none⟩ (.int .i64 0)).setCell ⟨w.heap.size + 1, 1, none⟩ (.int .i64 0)) (((W.setCell ⟨w.heap.size + 1, 0, none⟩ (.int .i64 0)).setCell ⟨w.heap.size + 1, 1, none⟩ (.int .i64 0)).putObj D (.deferred none)) := (Only.refl (· = D) _).putObj (.inl rfl) _;have HB := hid ((put2_blk (u := .int .i64 0) (v := .int .i64 0) h1).only hd (by omega));have HZ := hid (((HKW.o.trans hI1).only ho3 rfl (fun k hk => by omega)).only hd rfl (fun k hk => by omega));have HK2 := hid hK2;have HCV := hid hce;clear hI1 hI2 hI3 h1 h2 ho3 hK hK2 hd hD hS hce hss;go_wp2_with fail;rw [Exit.noGoto_ret];refine ⟨by simp, .inl ⟨_, _, rfl, run_takeDeferred HK2.o, ?_⟩⟩;exact ⟨_, fault_results (by rfl) _ _ rfl HB.o, by rw [HCV.o], HZ.o⟩
  case stop =>
   rintro D cd pre W hD hpre ⟨rfl, h1, h2, h3⟩ hK;obtain ⟨ce, hce⟩ : ∃ ce, (checkE x).1 = ce := ⟨_, rfl⟩;obtain ⟨ca, hca⟩ : ∃ ca, (checkE x).2 = ca := ⟨_, rfl⟩;rw [hce, hca] at h2;have c0 := h2.cell 0;have c1 := h2.cell 1;obtain ⟨f0, f1⟩ := (⟨h1.frozen 0, h1.frozen 1⟩ : W.frozen? ⟨w.heap.size + 1, 0, none⟩ = false /\ W.frozen? ⟨w.heap.size + 1, 1, none⟩ = false);have e0 := h1.cell 0;have e1 := h1.cell 1;simp only [List.getElem?_toArray, List.getElem?_cons_succ, List.getElem?_cons_zero] at c0 c1 e0 e1;have hss := HSS.o;have ho3 := put2_only W (w.heap.size + 1) (.int .i64 ce) (.int .i64 ca);have hK2 := ho3.same hK (by omega);have hd : Only (· = D) ((W.setCell ⟨w.heap.size + 1, 0, none⟩ (.int .i64 ce)).setCell ⟨w.heap.size + 1, 1, none⟩ (.int .i64 ca)) (((W.setCell ⟨w.heap.size + 1, 0, none⟩ (.int .i64 ce)).setCell ⟨w.heap.size + 1, 1, none⟩ (.int .i64 ca)).putObj D (.deferred none)) := (Only.refl (· = D) _).putObj (.inl rfl) _;have HB := hid ((put2_blk (u := .int .i64 ce) (v := .int .i64 ca) h1).only hd (by omega));have HZ := hid ((h3.only ho3 rfl (fun k hk => by omega)).only hd rfl (fun k hk => by omega));have HK2 := hid hK2;have HCV := hid (And.intro hce hca);clear h1 h2 h3 ho3 hK hK2 hd hD hce hca hss
   gi_wp2
   go_wp2_with fail;rw [Exit.noGoto_ret];refine ⟨by simp, .inl ⟨_, _, rfl, run_takeDeferred HK2.o, ?_⟩⟩;exact ⟨_, fault_results (by rfl) _ _ rfl HB.o, by rw [HCV.o.1, HCV.o.2], HZ.o⟩
 ·have HCV := hid (show checkE x = sizeE x by unfold checkE; rw [if_pos (by rw [HSE.o]; exact hse0)]);have hsb : (se != 0) = true := by simp [hse0]
  have HB := hid (put2_blk (u := .int .i64 se) (v := .int .i64 sa) HRB4.o);have HZ := hid (HK4.o.only (put2_only W4 (w.heap.size + 1) (.int .i64 se) (.int .i64 sa)) rfl (fun k hk => by omega));clear hse0;go_wp2_with (rw [HW4.o]);rw [Exit.noGoto_ret];refine ⟨_, fault_results (by rfl) _ _ rfl HB.o, by rw [HCV.o, HSE.o, HSA.o], HZ.o⟩
inductive Seg : List Pt -> List Nd -> Prop
 | nil : Seg [] []
 | cons (p : Pt) (ps : List Pt) (s l : List Nd) (h : ∀ y ∈ s, y.kind ∈ p.kinds) (h1 : p.cnt <= (s.length : Int)) (h2 : (s.length : Int) <= p.cnt + p.more) (hl : Seg ps l) : Seg (p :: ps) (s ++ l)
theorem takeWhile_len_take {α : Type} (q : α -> Bool) : ∀ l : List α, l.take (l.takeWhile q).length = l.takeWhile q
 | [] => rfl
 | x :: r => by
  rw [List.takeWhile_cons]
  cases h : q x with
  | true => simp [takeWhile_len_take q r]
  | false => simp
theorem mem_takeWhile {α : Type} {q : α -> Bool} : ∀ {l : List α} {y : α}, y ∈ l.takeWhile q -> q y = true
 | [], y, h => by simp at h
 | x :: r, y, h => by
  rw [List.takeWhile_cons] at h
  cases hx : q x with
  | true =>
   rw [hx] at h;simp at h;rcases h with rfl | h
   ·exact hx
   ·exact mem_takeWhile h
  | false => rw [hx] at h; simp at h
theorem kSize_mem {l : List Nd} {p : Pt} {f : Nat} : ∀ y ∈ (l.drop f).take (kSize l p f), y.kind ∈ p.kinds := by
 intro y hy;unfold kSize Nd.lead at hy;generalize kTo l.length p f - f = c at hy;generalize l.drop f = m at hy;have h1 := takeWhile_len_take (fun y : Nd => decide (y.kind ∈ p.kinds)) (m.take c);have h2 : m.take ((m.take c).takeWhile fun y => decide (y.kind ∈ p.kinds)).length = (m.take c).take ((m.take c).takeWhile fun y => decide (y.kind ∈ p.kinds)).length := by
  rw [List.take_take]
  congr 1
  have := (List.takeWhile_prefix (l := m.take c) fun y : Nd => decide (y.kind ∈ p.kinds)).length_le;rw [List.length_take] at this;omega
 rw [h2, h1] at hy;have hy := mem_takeWhile hy;exact of_decide_eq_true hy
theorem kRun_seg (l : List Nd) : ∀ (ps : List Pt) (f : Nat) (e : Int) (f' : Nat), f <= l.length -> kRun l ps (e, f) = some (0, f') -> e = 0 /\ f' <= l.length /\ ∃ m, Seg ps m /\ l.drop f = m ++ l.drop f'
 | [], f, e, f', hf, h => by
  rw [kRun] at h;injection h with h;injection h with h1 h2;subst h1 h2;exact ⟨rfl, hf, [], .nil, rfl⟩
 | p :: ps, f, e, f', hf, h => by
  rw [kRun] at h;by_cases hc : (kSize l p f : Int) < p.cnt
  ·have : kStep l p (e, f) = none := by unfold kStep; rw [if_pos hc]
   rw [this] at h; cases h
  ·have : kStep l p (e, f) = some (if p.cnt + p.more < (kSize l p f : Int) then 12 else e, f + kSize l p f) := by unfold kStep; rw [if_neg hc]
   rw [this] at h;have hle := kSize_le (p := p) hf;obtain ⟨h1, h2, m, h3, h4⟩ := kRun_seg l ps _ _ _ hle h;have hq : ¬ p.cnt + p.more < (kSize l p f : Int) := fun hq => by rw [if_pos hq] at h1; cases h1
   rw [if_neg hq] at h1;have hlen : ((l.drop f).take (kSize l p f)).length = kSize l p f := by rw [List.length_take, List.length_drop]; omega
   refine ⟨h1, h2, _, .cons p ps ((l.drop f).take (kSize l p f)) m kSize_mem (by rw [hlen]; omega) (by rw [hlen]; omega) h3, ?_⟩;rw [List.append_assoc, <- h4, <- List.drop_drop, List.take_append_drop]
theorem kids_seg {l : List Nd} {ps : List Pt} (h : kidsE l ps = 0) : Seg ps l := by
 unfold kidsE at h
 cases hr : kRun l ps (0, 0) with
 | none => rw [hr] at h; cases h
 | some st =>
  obtain ⟨e, f⟩ := st;rw [hr, kEnd] at h;by_cases hf : f < l.length
  ·rw [if_pos hf] at h; cases h
  ·rw [if_neg hf] at h;subst h;obtain ⟨_, h2, m, h3, h4⟩ := kRun_seg l ps 0 0 f (Nat.zero_le _) hr;rw [List.drop_zero, List.drop_of_length_le (by omega), List.append_nil] at h4;rw [h4]; exact h3
theorem seg_nil {l : List Nd} (h : Seg [] l) : l = [] := by cases h; rfl
theorem seg_cons {p : Pt} {ps : List Pt} {l : List Nd} (h : Seg (p :: ps) l) : ∃ s m, l = s ++ m /\ (∀ y ∈ s, y.kind ∈ p.kinds) /\ p.cnt <= (s.length : Int) /\ (s.length : Int) <= p.cnt + p.more /\ Seg ps m := by
 cases h with
 | cons _ _ s m h h1 h2 hl => exact ⟨s, m, rfl, h, h1, h2, hl⟩
def Ex (y : Nd) : Prop := y.kind ∈ exprK
theorem seg_one {k : List Int} {ps : List Pt} {l : List Nd} (h : Seg (⟨k, 1, 0⟩ :: ps) l) : ∃ a m, l = a :: m /\ a.kind ∈ k /\ Seg ps m := by
 obtain ⟨s, m, rfl, h, h1, h2, h3⟩ := seg_cons h;have h1 : (1 : Int) <= (s.length : Int) := h1;have h2 : (s.length : Int) <= 1 + 0 := h2;obtain ⟨a, rfl⟩ := List.length_eq_one_iff.1 (show s.length = 1 by omega);exact ⟨a, m, rfl, h a (by simp), h3⟩
theorem seg_two {k : List Int} {l : List Nd} (h : Seg [⟨k, 2, 0⟩] l) : ∃ a b, l = [a, b] /\ a.kind ∈ k /\ b.kind ∈ k := by
 obtain ⟨s, m, rfl, h, h1, h2, h3⟩ := seg_cons h;have h1 : (2 : Int) <= (s.length : Int) := h1;have h2 : (s.length : Int) <= 2 + 0 := h2;rw [seg_nil h3, List.append_nil]
 match s, h1, h2, h with
 | [a, b], _, _, h => exact ⟨a, b, rfl, h a (by simp), h b (by simp)⟩
 | [], h1, _, _ => simp at h1
 | [_], h1, _, _ => simp at h1
 | _ :: _ :: _ :: _, _, h2, _ => simp at h2; omega
theorem seg_args {k : List Int} {n : Int} {l : List Nd} (h : Seg [⟨k, 0, n⟩] l) : (∀ y ∈ l, y.kind ∈ k) /\ (l.length : Int) <= n := by
 obtain ⟨s, m, rfl, h, h1, h2, h3⟩ := seg_cons h;have h2 : (s.length : Int) <= 0 + n := h2;rw [seg_nil h3, List.append_nil];exact ⟨h, by omega⟩
inductive Sh : Nd -> Prop
 | prog (cs : List Nd) (b : Nd) (h1 : ∀ c ∈ cs, c.kind = 2) (h2 : b.kind = 6) : Sh (.mk 1 ⟨#[]⟩ ⟨#[]⟩ ⟨#[]⟩ 0 (cs ++ [b]))
 | clas (t y : ByteArray) (fs ms : List Nd) (ht : Wrd.cls t = true) (hy : y = ⟨#[]⟩ ∨ Wrd.cls y = true) (h1 : ∀ c ∈ fs, c.kind = 3) (h2 : ∀ c ∈ ms, c.kind = 4) : Sh (.mk 2 t y ⟨#[]⟩ 0 (fs ++ ms))
 | field (t y : ByteArray) (ht : Wrd.name t = true) (hy : Wrd.typ y = true) : Sh (.mk 3 t y ⟨#[]⟩ 0 [])
 | method (t y : ByteArray) (ps : List Nd) (b : Nd) (ht : Wrd.name t = true) (hy : Wrd.typ y = true) (h1 : ∀ c ∈ ps, c.kind = 5) (h2 : b.kind = 6) : Sh (.mk 4 t y ⟨#[]⟩ 0 (ps ++ [b]))
 | param (t y : ByteArray) (ht : Wrd.name t = true) (hy : Wrd.typ y = true) : Sh (.mk 5 t y ⟨#[]⟩ 0 [])
 | block (l : List Nd) (h : ∀ c ∈ l, Ex c ∨ c.kind = 15) : Sh (.mk 6 ⟨#[]⟩ ⟨#[]⟩ ⟨#[]⟩ 0 l)
 | int (n : Int) (h : 0 <= n /\ n <= 9223372036854775807) : Sh (.mk 7 ⟨#[]⟩ ⟨#[]⟩ ⟨#[]⟩ n [])
 | real (n : Int) (h : 0 <= n /\ n <= 9007199254740992) : Sh (.mk 8 ⟨#[]⟩ ⟨#[]⟩ ⟨#[]⟩ n [])
 | noNum (t : ByteArray) (h : t = ⟨#[110, 97, 110]⟩ ∨ t = ⟨#[105, 110, 102]⟩) : Sh (.mk 8 t ⟨#[]⟩ ⟨#[]⟩ 0 [])
 | bool (n : Int) (h : n = 0 ∨ n = 1) : Sh (.mk 9 ⟨#[]⟩ ⟨#[]⟩ ⟨#[]⟩ n [])
 | str (t : ByteArray) (h : contsB t = true) (hs : t.size <= 1000) : Sh (.mk 10 t ⟨#[]⟩ ⟨#[]⟩ 0 [])
 | unit : Sh (.mk 11 ⟨#[]⟩ ⟨#[]⟩ ⟨#[]⟩ 0 [])
 | none (y : ByteArray) (hy : Wrd.cls y = true) : Sh (.mk 12 ⟨#[]⟩ y ⟨#[]⟩ 0 [])
 | this : Sh (.mk 13 ⟨#[]⟩ ⟨#[]⟩ ⟨#[]⟩ 0 [])
 | var (t : ByteArray) (ht : Wrd.name t = true) : Sh (.mk 14 t ⟨#[]⟩ ⟨#[]⟩ 0 [])
 | let_ (t y : ByteArray) (a : Nd) (ht : Wrd.name t = true) (hy : Wrd.typ y = true) (h : Ex a) : Sh (.mk 15 t y ⟨#[]⟩ 0 [a])
 | set (t : ByteArray) (a : Nd) (ht : Wrd.name t = true) (h : Ex a) : Sh (.mk 16 t ⟨#[]⟩ ⟨#[]⟩ 0 [a])
 | get (t : ByteArray) (a : Nd) (ht : Wrd.name t = true) (h : Ex a) : Sh (.mk 17 t ⟨#[]⟩ ⟨#[]⟩ 0 [a])
 | put (t : ByteArray) (a b : Nd) (ht : Wrd.name t = true) (h : Ex a) (h2 : Ex b) : Sh (.mk 18 t ⟨#[]⟩ ⟨#[]⟩ 0 [a, b])
 | call (t : ByteArray) (a : Nd) (l : List Nd) (ht : Wrd.name t = true) (h : Ex a) (hl : ∀ c ∈ l, Ex c) : Sh (.mk 19 t ⟨#[]⟩ ⟨#[]⟩ 0 (a :: l))
 | super (t : ByteArray) (l : List Nd) (ht : Wrd.name t = true) (hl : ∀ c ∈ l, Ex c) : Sh (.mk 20 t ⟨#[]⟩ ⟨#[]⟩ 0 l)
 | new (y : ByteArray) (l : List Nd) (hy : Wrd.cls y = true) (hl : ∀ c ∈ l, Ex c) : Sh (.mk 21 ⟨#[]⟩ y ⟨#[]⟩ 0 l)
 | cond (a b c : Nd) (h : Ex a) (h1 : b.kind = 6) (h2 : c.kind = 6) : Sh (.mk 22 ⟨#[]⟩ ⟨#[]⟩ ⟨#[]⟩ 0 [a, b, c])
 | loop (a b : Nd) (h : Ex a) (h1 : b.kind = 6) : Sh (.mk 23 ⟨#[]⟩ ⟨#[]⟩ ⟨#[]⟩ 0 [a, b])
 | un (t : ByteArray) (a : Nd) (ht : t = ⟨#[45]⟩ ∨ t = ⟨#[33]⟩) (h : Ex a) : Sh (.mk 24 t ⟨#[]⟩ ⟨#[]⟩ 0 [a])
 | bin (t : ByteArray) (a b : Nd) (ht : hasW wBin t = true) (h : Ex a) (h2 : Ex b) : Sh (.mk 25 t ⟨#[]⟩ ⟨#[]⟩ 0 [a, b])
 | read : Sh (.mk 26 ⟨#[]⟩ ⟨#[]⟩ ⟨#[]⟩ 0 [])
 | print (a : Nd) (h : Ex a) : Sh (.mk 27 ⟨#[]⟩ ⟨#[]⟩ ⟨#[]⟩ 0 [a])
 | as_ (y : ByteArray) (a : Nd) (hy : Wrd.typ y = true) (h : Ex a) : Sh (.mk 28 ⟨#[]⟩ y ⟨#[]⟩ 0 [a])
 | conv (t : ByteArray) (a : Nd) (ht : t = ⟨#[114, 101, 97, 108]⟩ ∨ t = ⟨#[105, 110, 116]⟩ ∨ t = ⟨#[108, 101, 110]⟩) (h : Ex a) : Sh (.mk 29 t ⟨#[]⟩ ⟨#[]⟩ 0 [a])
theorem ruleE_zero {nd : Ne} {x : Nd} (h : ruleE nd x = 0) : Seg nd.kids x.kids /\ formedB nd x = true /\ namedB nd x = true /\ (nd.typ = 4 -> Wrd.typ x.typ = true) /\ 0 <= x.n /\ x.n <= nd.most /\ (nd.text = 7 -> x.text.size <= 1000) := by
 unfold ruleE at h
 split at h
 ·rename_i hk; exact absurd h hk
 ·rename_i hk
  split at h
  ·cases h
  ·rename_i hf
   split at h
   ·cases h
   ·rename_i hn
    split at h
    ·cases h
    ·rename_i ht
     split at h
     ·cases h
     ·rename_i hr
      split at h
      ·cases h
      ·rename_i hl
       refine ⟨kids_seg (by simpa using hk), by simpa using hf, by simpa using hn, fun e => ?_, by omega, by omega, fun e => ?_⟩
       ·cases hq : Wrd.typ x.typ with
        | true => rfl
        | false => exact absurd ⟨e, hq⟩ ht
       ·rcases Nat.lt_or_ge 1000 x.text.size with h | h
        ·exact absurd ⟨e, h⟩ hl
        ·exact h
theorem flds_num : Wrd.flds wNum = [⟨#[110, 97, 110]⟩, ⟨#[105, 110, 102]⟩] := by kernel_rfl
theorem flds_un : Wrd.flds wUn = [⟨#[45]⟩, ⟨#[33]⟩] := by kernel_rfl
theorem flds_conv : Wrd.flds wConv = [⟨#[114, 101, 97, 108]⟩, ⟨#[105, 110, 116]⟩, ⟨#[108, 101, 110]⟩] := by kernel_rfl
theorem flds_bin : Wrd.flds wBin = [⟨#[124, 124]⟩, ⟨#[38, 38]⟩, ⟨#[61, 61]⟩, ⟨#[33, 61]⟩, ⟨#[60]⟩, ⟨#[60, 61]⟩, ⟨#[43]⟩, ⟨#[45]⟩, ⟨#[42]⟩, ⟨#[47]⟩, ⟨#[37]⟩] := by kernel_rfl
theorem has2 {a b t : ByteArray} (h : Wrd.has [a, b] t = true) : t = a ∨ t = b := by
 have h : (decide (a = t) || (decide (b = t) || false)) = true := h;rw [Bool.or_eq_true, Bool.or_eq_true, decide_eq_true_iff, decide_eq_true_iff] at h;rcases h with h | h | h
 ·exact .inl h.symm
 ·exact .inr h.symm
 ·cases h
theorem has3 {a b c t : ByteArray} (h : Wrd.has [a, b, c] t = true) : t = a ∨ t = b ∨ t = c := by
 have h : (decide (a = t) || (decide (b = t) || (decide (c = t) || false))) = true := h;rw [Bool.or_eq_true, Bool.or_eq_true, Bool.or_eq_true, decide_eq_true_iff, decide_eq_true_iff, decide_eq_true_iff] at h;rcases h with h | h | h | h
 ·exact .inl h.symm
 ·exact .inr (.inl h.symm)
 ·exact .inr (.inr h.symm)
 ·cases h
theorem ent_or {k : Int} (h : k ∈ entK) : k ∈ exprK ∨ k = 15 := by
 unfold entK at h;rcases List.mem_append.1 h with h | h
 ·exact .inl h
 ·exact .inr (List.mem_singleton.1 h)
theorem isNm3 {s : ByteArray} (h : isNm 3 s = true) : s = ⟨#[]⟩ ∨ Wrd.cls s = true := by
 have h : (decide (s = ⟨#[]⟩) || Wrd.cls s) = true := h
 simpa using h
theorem node_sh {x : Nd} (h : nodeE x = 0) : Sh x := by
 unfold nodeE at h
 split at h
 ·cases h
 ·rename_i hk
  obtain ⟨K, hK⟩ : ∃ K : Nat, K < 30 /\ x.kind = (K : Int) := ⟨x.kind.toNat, by have : (needsT.length : Int) = 30 := rfl; omega, by omega⟩;have hp : 0 < K := by omega
  obtain ⟨hK, eK⟩ := hK;rw [eK, Int.toNat_natCast] at h;obtain ⟨k, t, y, f, n, ks⟩ := x;have eK : k = (K : Int) := eK;subst eK;have fin : ∀ {nd : Ne}, ruleE nd (.mk K t y f n ks) = 0 -> Seg nd.kids ks /\ textB nd.text nd.words t n = true /\ isNm nd.text t = true /\ isNm nd.typ y = true /\ f = ⟨#[]⟩ /\ (nd.typ = 0 -> y = ⟨#[]⟩) /\ (¬ 0 < nd.most -> n = 0) /\ (nd.typ = 4 -> Wrd.typ y = true) /\ 0 <= n /\ n <= nd.most /\ (nd.text = 7 -> t.size <= 1000) := fun {nd} h => by
   obtain ⟨a1, a2, a3, a4, a5, a6, a7⟩ := ruleE_zero h;have a2 : (textB nd.text nd.words t n && restB nd.typ nd.most f y n) = true := a2;have a3 : (isNm nd.text t && isNm nd.typ y) = true := a3;rw [Bool.and_eq_true] at a2 a3;have b2 := a2.2;unfold restB at b2;simp only [Bool.and_eq_true, Bool.or_eq_true, decide_eq_true_eq] at b2;exact ⟨a1, a2.1, a3.1, a3.2, b2.1.1, fun e => b2.1.2.resolve_left (fun h => h e), fun e => b2.2.resolve_left e, a4, a5, a6, a7⟩
  match K, hK, hp, h with
  | 1, _, _, h =>
   obtain ⟨hs, htx, hnt, hny, hf, hy0, hn0, ht4, h1, h2, h3⟩ := fin (nd := ⟨0, 0, noW, 0, [pUp 40 2, pBlock]⟩) h;subst hf;obtain rfl := hy0 rfl;obtain rfl := hn0 (by decide);obtain rfl : t = ⟨#[]⟩ := of_decide_eq_true htx;obtain ⟨l, m, rfl, hl, _, _, hs⟩ := seg_cons hs;obtain ⟨b, m, rfl, hb, hs⟩ := seg_one hs;obtain rfl := seg_nil hs;have hb := List.mem_singleton.1 hb;exact .prog l b (fun c hc => List.mem_singleton.1 (hl c hc)) hb
  | 2, _, _, h =>
   obtain ⟨hs, htx, hnt, hny, hf, hy0, hn0, ht4, h1, h2, h3⟩ := fin (nd := ⟨2, 3, noW, 0, [pUp 20 3, pUp 20 4]⟩) h;subst hf;obtain rfl := hn0 (by decide);obtain ⟨fs, m, rfl, hl, _, _, hs⟩ := seg_cons hs;have hm := (seg_args hs).1;exact .clas t y fs m hnt (isNm3 hny) (fun c hc => List.mem_singleton.1 (hl c hc)) (fun c hc => List.mem_singleton.1 (hm c hc))
  | 3, _, _, h =>
   obtain ⟨hs, htx, hnt, hny, hf, hy0, hn0, ht4, h1, h2, h3⟩ := fin (nd := ⟨1, 4, noW, 0, []⟩) h;subst hf;obtain rfl := hn0 (by decide);obtain rfl := seg_nil hs;exact .field t y hnt (ht4 rfl)
  | 4, _, _, h =>
   obtain ⟨hs, htx, hnt, hny, hf, hy0, hn0, ht4, h1, h2, h3⟩ := fin (nd := ⟨1, 4, noW, 0, [pUp 8 5, pBlock]⟩) h;subst hf;obtain rfl := hn0 (by decide);obtain ⟨l, m, rfl, hl, _, _, hs⟩ := seg_cons hs;obtain ⟨b, m, rfl, hb, hs⟩ := seg_one hs;obtain rfl := seg_nil hs;have hb := List.mem_singleton.1 hb;exact .method t y l b hnt (ht4 rfl) (fun c hc => List.mem_singleton.1 (hl c hc)) hb
  | 5, _, _, h =>
   obtain ⟨hs, htx, hnt, hny, hf, hy0, hn0, ht4, h1, h2, h3⟩ := fin (nd := ⟨1, 4, noW, 0, []⟩) h;subst hf;obtain rfl := hn0 (by decide);obtain rfl := seg_nil hs;exact .param t y hnt (ht4 rfl)
  | 6, _, _, h =>
   obtain ⟨hs, htx, hnt, hny, hf, hy0, hn0, ht4, h1, h2, h3⟩ := fin (nd := ⟨0, 0, noW, 0, [pEnt]⟩) h;subst hf;obtain rfl := hy0 rfl;obtain rfl := hn0 (by decide);obtain rfl : t = ⟨#[]⟩ := of_decide_eq_true htx;have hl := (seg_args hs).1;exact .block ks (fun c hc => ent_or (hl c hc))
  | 7, _, _, h =>
   obtain ⟨hs, htx, hnt, hny, hf, hy0, hn0, ht4, h1, h2, h3⟩ := fin (nd := ⟨0, 0, noW, 9223372036854775807, []⟩) h;subst hf;obtain rfl := hy0 rfl;obtain rfl : t = ⟨#[]⟩ := of_decide_eq_true htx;obtain rfl := seg_nil hs;exact .int n ⟨h1, h2⟩
  | 8, _, _, h =>
   obtain ⟨hs, htx, hnt, hny, hf, hy0, hn0, ht4, h1, h2, h3⟩ := fin (nd := ⟨6, 0, wNum, 9007199254740992, []⟩) h;subst hf;obtain rfl := hy0 rfl;obtain rfl := seg_nil hs;have htx : (decide (t = ⟨#[]⟩) || (decide (n = 0) && hasW wNum t)) = true := htx;rw [Bool.or_eq_true, Bool.and_eq_true, decide_eq_true_iff, decide_eq_true_iff] at htx;rcases htx with rfl | ⟨rfl, ht⟩
   ·exact .real n ⟨h1, h2⟩
   ·exact .noNum t (has2 (by rw [<- flds_num]; exact ht))
  | 9, _, _, h =>
   obtain ⟨hs, htx, hnt, hny, hf, hy0, hn0, ht4, h1, h2, h3⟩ := fin (nd := ⟨0, 0, noW, 1, []⟩) h;subst hf;obtain rfl := hy0 rfl;obtain rfl : t = ⟨#[]⟩ := of_decide_eq_true htx;obtain rfl := seg_nil hs;exact .bool n (by have h2 : n <= 1 := h2; omega)
  | 10, _, _, h =>
   obtain ⟨hs, htx, hnt, hny, hf, hy0, hn0, ht4, h1, h2, h3⟩ := fin (nd := ⟨7, 0, noW, 0, []⟩) h;subst hf;obtain rfl := hy0 rfl;obtain rfl := hn0 (by decide);obtain rfl := seg_nil hs;exact .str t htx (h3 rfl)
  | 11, _, _, h =>
   obtain ⟨hs, htx, hnt, hny, hf, hy0, hn0, ht4, h1, h2, h3⟩ := fin (nd := ⟨0, 0, noW, 0, []⟩) h;subst hf;obtain rfl := hy0 rfl;obtain rfl := hn0 (by decide);obtain rfl : t = ⟨#[]⟩ := of_decide_eq_true htx;obtain rfl := seg_nil hs;exact .unit
  | 12, _, _, h =>
   obtain ⟨hs, htx, hnt, hny, hf, hy0, hn0, ht4, h1, h2, h3⟩ := fin (nd := ⟨0, 2, noW, 0, []⟩) h;subst hf;obtain rfl := hn0 (by decide);obtain rfl : t = ⟨#[]⟩ := of_decide_eq_true htx;obtain rfl := seg_nil hs;exact .none y hny
  | 13, _, _, h =>
   obtain ⟨hs, htx, hnt, hny, hf, hy0, hn0, ht4, h1, h2, h3⟩ := fin (nd := ⟨0, 0, noW, 0, []⟩) h;subst hf;obtain rfl := hy0 rfl;obtain rfl := hn0 (by decide);obtain rfl : t = ⟨#[]⟩ := of_decide_eq_true htx;obtain rfl := seg_nil hs;exact .this
  | 14, _, _, h =>
   obtain ⟨hs, htx, hnt, hny, hf, hy0, hn0, ht4, h1, h2, h3⟩ := fin (nd := ⟨1, 0, noW, 0, []⟩) h;subst hf;obtain rfl := hy0 rfl;obtain rfl := hn0 (by decide);obtain rfl := seg_nil hs;exact .var t hnt
  | 15, _, _, h =>
   obtain ⟨hs, htx, hnt, hny, hf, hy0, hn0, ht4, h1, h2, h3⟩ := fin (nd := ⟨1, 4, noW, 0, [pOne]⟩) h;subst hf;obtain rfl := hn0 (by decide);obtain ⟨a, m, rfl, ha, hs⟩ := seg_one hs;obtain rfl := seg_nil hs;exact .let_ t y a hnt (ht4 rfl) ha
  | 16, _, _, h =>
   obtain ⟨hs, htx, hnt, hny, hf, hy0, hn0, ht4, h1, h2, h3⟩ := fin (nd := ⟨1, 0, noW, 0, [pOne]⟩) h;subst hf;obtain rfl := hy0 rfl;obtain rfl := hn0 (by decide);obtain ⟨a, m, rfl, ha, hs⟩ := seg_one hs;obtain rfl := seg_nil hs;exact .set t a hnt ha
  | 17, _, _, h =>
   obtain ⟨hs, htx, hnt, hny, hf, hy0, hn0, ht4, h1, h2, h3⟩ := fin (nd := ⟨1, 0, noW, 0, [pOne]⟩) h;subst hf;obtain rfl := hy0 rfl;obtain rfl := hn0 (by decide);obtain ⟨a, m, rfl, ha, hs⟩ := seg_one hs;obtain rfl := seg_nil hs;exact .get t a hnt ha
  | 18, _, _, h =>
   obtain ⟨hs, htx, hnt, hny, hf, hy0, hn0, ht4, h1, h2, h3⟩ := fin (nd := ⟨1, 0, noW, 0, [pTwo]⟩) h;subst hf;obtain rfl := hy0 rfl;obtain rfl := hn0 (by decide);obtain ⟨a, b, rfl, ha, hb⟩ := seg_two hs;exact .put t a b hnt ha hb
  | 19, _, _, h =>
   obtain ⟨hs, htx, hnt, hny, hf, hy0, hn0, ht4, h1, h2, h3⟩ := fin (nd := ⟨1, 0, noW, 0, [pOne, pArgs]⟩) h;subst hf;obtain rfl := hy0 rfl;obtain rfl := hn0 (by decide);obtain ⟨a, l, rfl, ha, hs⟩ := seg_one hs;have hl := (seg_args hs).1;exact .call t a l hnt ha hl
  | 20, _, _, h =>
   obtain ⟨hs, htx, hnt, hny, hf, hy0, hn0, ht4, h1, h2, h3⟩ := fin (nd := ⟨1, 0, noW, 0, [pArgs]⟩) h;subst hf;obtain rfl := hy0 rfl;obtain rfl := hn0 (by decide);have hl := (seg_args hs).1;exact .super t ks hnt hl
  | 21, _, _, h =>
   obtain ⟨hs, htx, hnt, hny, hf, hy0, hn0, ht4, h1, h2, h3⟩ := fin (nd := ⟨0, 2, noW, 0, [pArgs]⟩) h;subst hf;obtain rfl := hn0 (by decide);obtain rfl : t = ⟨#[]⟩ := of_decide_eq_true htx;have hl := (seg_args hs).1;exact .new y ks hny hl
  | 22, _, _, h =>
   obtain ⟨hs, htx, hnt, hny, hf, hy0, hn0, ht4, h1, h2, h3⟩ := fin (nd := ⟨0, 0, noW, 0, [pOne, pBlock, pBlock]⟩) h;subst hf;obtain rfl := hy0 rfl;obtain rfl := hn0 (by decide);obtain rfl : t = ⟨#[]⟩ := of_decide_eq_true htx;obtain ⟨a, m, rfl, ha, hs⟩ := seg_one hs;obtain ⟨b, m, rfl, hb, hs⟩ := seg_one hs;obtain ⟨c, m, rfl, hc, hs⟩ := seg_one hs;obtain rfl := seg_nil hs;have hb := List.mem_singleton.1 hb;have hc := List.mem_singleton.1 hc;exact .cond a b c ha hb hc
  | 23, _, _, h =>
   obtain ⟨hs, htx, hnt, hny, hf, hy0, hn0, ht4, h1, h2, h3⟩ := fin (nd := ⟨0, 0, noW, 0, [pOne, pBlock]⟩) h;subst hf;obtain rfl := hy0 rfl;obtain rfl := hn0 (by decide);obtain rfl : t = ⟨#[]⟩ := of_decide_eq_true htx;obtain ⟨a, m, rfl, ha, hs⟩ := seg_one hs;obtain ⟨b, m, rfl, hb, hs⟩ := seg_one hs;obtain rfl := seg_nil hs;have hb := List.mem_singleton.1 hb;exact .loop a b ha hb
  | 24, _, _, h =>
   obtain ⟨hs, htx, hnt, hny, hf, hy0, hn0, ht4, h1, h2, h3⟩ := fin (nd := ⟨5, 0, wUn, 0, [pOne]⟩) h;subst hf;obtain rfl := hy0 rfl;obtain rfl := hn0 (by decide);obtain ⟨a, m, rfl, ha, hs⟩ := seg_one hs;obtain rfl := seg_nil hs;exact .un t a (has2 (by rw [<- flds_un]; exact htx)) ha
  | 25, _, _, h =>
   obtain ⟨hs, htx, hnt, hny, hf, hy0, hn0, ht4, h1, h2, h3⟩ := fin (nd := ⟨5, 0, wBin, 0, [pTwo]⟩) h;subst hf;obtain rfl := hy0 rfl;obtain rfl := hn0 (by decide);obtain ⟨a, b, rfl, ha, hb⟩ := seg_two hs;exact .bin t a b htx ha hb
  | 26, _, _, h =>
   obtain ⟨hs, htx, hnt, hny, hf, hy0, hn0, ht4, h1, h2, h3⟩ := fin (nd := ⟨0, 0, noW, 0, []⟩) h;subst hf;obtain rfl := hy0 rfl;obtain rfl := hn0 (by decide);obtain rfl : t = ⟨#[]⟩ := of_decide_eq_true htx;obtain rfl := seg_nil hs;exact .read
  | 27, _, _, h =>
   obtain ⟨hs, htx, hnt, hny, hf, hy0, hn0, ht4, h1, h2, h3⟩ := fin (nd := ⟨0, 0, noW, 0, [pOne]⟩) h;subst hf;obtain rfl := hy0 rfl;obtain rfl := hn0 (by decide);obtain rfl : t = ⟨#[]⟩ := of_decide_eq_true htx;obtain ⟨a, m, rfl, ha, hs⟩ := seg_one hs;obtain rfl := seg_nil hs;exact .print a ha
  | 28, _, _, h =>
   obtain ⟨hs, htx, hnt, hny, hf, hy0, hn0, ht4, h1, h2, h3⟩ := fin (nd := ⟨0, 4, noW, 0, [pOne]⟩) h;subst hf;obtain rfl := hn0 (by decide);obtain rfl : t = ⟨#[]⟩ := of_decide_eq_true htx;obtain ⟨a, m, rfl, ha, hs⟩ := seg_one hs;obtain rfl := seg_nil hs;exact .as_ y a (ht4 rfl) ha
  | 29, _, _, h =>
   obtain ⟨hs, htx, hnt, hny, hf, hy0, hn0, ht4, h1, h2, h3⟩ := fin (nd := ⟨5, 0, wConv, 0, [pOne]⟩) h;subst hf;obtain rfl := hy0 rfl;obtain rfl := hn0 (by decide);obtain ⟨a, m, rfl, ha, hs⟩ := seg_one hs;obtain rfl := seg_nil hs;exact .conv t a (has3 (by rw [<- flds_conv]; exact htx)) ha
  | K + 30, hK, _, _ => omega
inductive Wf : Nd -> Prop
 | mk (x : Nd) (h : Sh x) (hk : ∀ y ∈ x.kids, Wf y) : Wf x
theorem Wf.sh {x : Nd} (h : Wf x) : Sh x := by cases h; assumption
theorem Wf.kid {x y : Nd} (h : Wf x) (hy : y ∈ x.kids) : Wf y := by cases h with | mk _ _ hk => exact hk y hy
namespace Pr
open Ps (O En Fin run post unary oper expr postLoop lvl is mem levels kDot kOpen kShut kEq kComma kSemi kLeft kRight kColon nd e0 aName aClass kAny)
def ops : List ByteArray := levels 0 ++ levels 1 ++ levels 2 ++ levels 3 ++ levels 4 ++ levels 5
theorem mem_app (a b : List ByteArray) (x : ByteArray) : mem (a ++ b) x = (mem a x || mem b x) := by unfold Ps.mem; rw [List.any_append]
theorem lev_off {x : ByteArray} (h : mem ops x = false) (i : Nat) : mem (levels i) x = false := by
 unfold ops at h;simp only [mem_app, Bool.or_eq_false_iff] at h
 match i with
 | 0 => exact h.1.1.1.1.1
 | 1 => exact h.1.1.1.1.2
 | 2 => exact h.1.1.1.2
 | 3 => exact h.1.1.2
 | 4 => exact h.1.2
 | 5 => exact h.2
 | n + 6 => rfl
def offs : List ByteArray := kDot :: kOpen :: kEq :: ops
theorem fin_of {j : Nat} {l : List T} (h : mem (kDot :: kOpen :: ops) (Ps.hd l) = false) : Fin j l := by
 rw [Ps.mem_cons, Ps.mem_cons, Bool.or_eq_false_iff, Bool.or_eq_false_iff] at h;refine ⟨?_, ?_, fun i _ => lev_off h.2.2 i⟩
 ·show mem [kDot] (Ps.hd l) = false
  rw [Ps.mem_cons, h.1]; rfl
 ·show mem [kOpen] (Ps.hd l) = false
  rw [Ps.mem_cons, h.2.1]; rfl
def Stp (l : List T) : Prop := Fin 0 l /\ is [kEq] l = false
theorem stp_of {l : List T} (h : mem offs (Ps.hd l) = false) : Stp l := by
 unfold offs at h;have h1 := h;rw [Ps.mem_cons, Ps.mem_cons, Ps.mem_cons, Bool.or_eq_false_iff, Bool.or_eq_false_iff, Bool.or_eq_false_iff] at h1;refine ⟨fin_of ?_, ?_⟩
 ·rw [Ps.mem_cons, Ps.mem_cons, h1.1, h1.2.1, h1.2.2.2]; rfl
 ·show mem [kEq] (Ps.hd l) = false
  rw [Ps.mem_cons, h1.2.2.1]; rfl
theorem stp_sg {x : ByteArray} {r : List T} (h : mem offs x = false) : Stp (sgn x :: r) := stp_of h
theorem run_ex {e : Nd} (h : CE e) {k : Nat} {r : List T} (hE : En r) (hk : (toks e ++ r).length <= k) (hs : Stp r) : run k .expr (toks e ++ r) = .ok e r /\ mem Ps.firstE (Ps.hd (toks e ++ r)) = true := by
 have hp := hE.pos;obtain ⟨k, rfl⟩ : ∃ q, k = q + 1 := ⟨k - 1, by rw [len_app] at hk; omega⟩;have := h.ex k r hE hk hs.1 hs.2;exact ⟨this, Ps.expr_first this⟩
theorem sep_cons (s : List T) : ∀ (p : Kd) (r : List Kd), sep s (p :: r) = p.2 ++ r.flatMap fun q => s ++ q.2
 | p, [] => by simp [sep]
 | p, q :: r => by rw [sep, sep_cons s q r]; simp [List.append_assoc]
def tl (s : T) (l : List Nd) : List T := l.flatMap fun y => s :: toks y
theorem sep_nd (s : T) (x : Nd) (l : List Nd) : sep [s] ((x :: l).map kdN) = toks x ++ tl s l := by
 rw [List.map_cons, sep_cons];unfold tl;rw [List.flatMap_map]
 rfl
theorem tl_cons (s : T) (x : Nd) (l : List Nd) : tl s (x :: l) = s :: (toks x ++ tl s l) := by unfold tl; simp
theorem tl_head {s : T} {l : List Nd} {t : T} {r : List T} : Ps.hd (tl s l ++ t :: r) = if l = [] then Ps.srt t else Ps.srt s := by
 cases l with
 | nil => rfl
 | cons x l => rw [tl_cons]; rfl
theorem tl_len (s : T) : ∀ l : List Nd, l.length <= (tl s l).length
 | [] => Nat.le_refl _
 | x :: l => by rw [tl_cons]; have := tl_len s l; simp; omega
def Parts (part : List T -> O Nd) (M : Nat) (l : List Nd) : Prop := ∀ x ∈ l, ∀ r, En r -> Ps.hd r = kComma ∨ Ps.hd r = kShut -> (toks x ++ r).length <= M -> part (toks x ++ r) = .ok x r /\ is [kShut] (toks x ++ r) = false
theorem hd_tl {l : List Nd} {r : List T} : Ps.hd (tl (sgn kComma) l ++ sgn kShut :: r) = kComma ∨ Ps.hd (tl (sgn kComma) l ++ sgn kShut :: r) = kShut := by
 rw [tl_head];by_cases h : l = []
 ·rw [if_pos h]; exact .inr rfl
 ·rw [if_neg h]; exact .inl rfl
theorem listLoop_ok {part : List T -> O Nd} {M : Nat} : ∀ (l acc : List Nd) (K : Nat) (r : List T), Parts part M l -> En r -> l.length < K -> (tl (sgn kComma) l ++ sgn kShut :: r).length <= M -> Ps.listLoop part K acc (tl (sgn kComma) l ++ sgn kShut :: r) = .ok (acc ++ l) r
 | [], acc, K + 1, r, hp, hE, hK, hM => by
  show Ps.listLoop part (K + 1) acc (sgn kShut :: r) = _
  rw [Ps.listLoop, is_sg (show mem [kComma] kShut = false by decide), if_neg (by decide), Ps.take_yes (by decide), O.bind_ok, List.append_nil]
 | x :: l, acc, K + 1, r, hp, hE, hK, hM => by
  have e : tl (sgn kComma) (x :: l) ++ sgn kShut :: r = sgn kComma :: (toks x ++ (tl (sgn kComma) l ++ sgn kShut :: r)) := by rw [tl_cons]; simp
  rw [e] at hM ⊢;rw [Ps.listLoop, is_sg (show mem [kComma] kComma = true by decide), if_pos rfl]
  show (part (toks x ++ (tl (sgn kComma) l ++ sgn kShut :: r))).bind _ = _
  rw [(hp x (by simp) _ ((hE.cons _).app _) hd_tl (by simp at hM ⊢; omega)).1, O.bind_ok, listLoop_ok l (acc ++ [x]) K r (fun y hy => hp y (List.mem_cons_of_mem _ hy)) hE (by simpa using hK) (by simp at hM ⊢; omega)];simp
theorem list_ok {part : List T -> O Nd} {M : Nat} {l : List Nd} {r : List T} (hp : Parts part M l) (hE : En r) (hM : (brk (l.map kdN) ++ r).length <= M + 1) : Ps.list part (brk (l.map kdN) ++ r) = .ok l r := by
 cases l with
 | nil =>
  show Ps.list part (sgn kOpen :: sgn kShut :: r) = _
  unfold Ps.list;rw [Ps.take_yes (by decide), O.bind_ok, is_sg (show mem [kShut] kShut = true by decide), if_pos rfl]
  rfl
 | cons x l =>
  have e : brk ((x :: l).map kdN) ++ r = sgn kOpen :: (toks x ++ (tl (sgn kComma) l ++ sgn kShut :: r)) := by
   unfold brk;rw [sep_nd]; simp
  rw [e] at hM ⊢;have h1 := hp x (by simp) _ ((hE.cons _).app _) (hd_tl (l := l) (r := r)) (by simp at hM ⊢; omega);unfold Ps.list;rw [Ps.take_yes (by decide), O.bind_ok, h1.2, if_neg (by decide), h1.1, O.bind_ok, listLoop_ok l [x] _ r (fun y hy => hp y (List.mem_cons_of_mem _ hy)) hE (by have := tl_len (sgn kComma) l; simp; omega) (by simp at hM ⊢; omega)]
  rfl
theorem parts_ex {k : Nat} {l : List Nd} (h : ∀ x ∈ l, CE x) : Parts (run k .expr) k l := by
 intro x hx r hE hr hk;have h1 := run_ex (h x hx) hE hk (stp_of (by rcases hr with e | e <;> rw [e] <;> decide));exact ⟨h1.1, Ps.is_off h1.2 (by decide)⟩
theorem args_ok {k : Nat} {l : List Nd} {r : List T} (h : ∀ x ∈ l, CE x) (hE : En r) (hk : (brk (l.map kdN) ++ r).length <= k + 1) : Ps.args (run k) (brk (l.map kdN) ++ r) = .ok l r := list_ok (parts_ex h) hE hk
theorem operand_ok {k : Nat} {a : Nd} {r : List T} (h : CE a) (hE : En r) (hk : (bk a ++ r).length <= k + 1) : Ps.operand (run k) (bk a ++ r) = .ok [a] r := by
 have e : bk a ++ r = sgn kOpen :: (toks a ++ sgn kShut :: r) := by simp [bk]
 rw [e] at hk ⊢;unfold Ps.operand;rw [Ps.take_yes (by decide), O.bind_ok, (run_ex h (hE.cons _) (by simpa using hk) (stp_sg (by decide))).1, O.bind_ok, Ps.take_yes (by decide), O.bind_ok]
theorem cls_not {y : ByteArray} (h : Wrd.cls y = true) : isBase y = false /\ y ≠ kAny := by
 constructor
 ·cases hb : isBase y with
  | false => rfl
  | true =>
   exfalso;unfold isBase at hb;simp only [Bool.or_eq_true, decide_eq_true_eq] at hb;rcases hb with (((rfl | rfl) | rfl) | rfl) | rfl <;> exact absurd h (by decide)
 ·rintro rfl; exact absurd h (by decide)
theorem typT_cls {y : ByteArray} (h : Wrd.cls y = true) : typT y = tk 2 y 0 := by
 unfold typT;rw [(cls_not h).1, if_neg (by decide), if_neg (cls_not h).2]
theorem typ_three {y : ByteArray} (h : Wrd.typ y = true) : isBase y = true ∨ y = kAny ∨ Wrd.cls y = true := by
 unfold Wrd.typ Wrd.kind at h;by_cases h1 : Wrd.base y = true
 ·left
  unfold Wrd.base Wrd.has Wrd.bs at h1;unfold isBase;simp only [List.any_cons, List.any_nil, Bool.or_eq_true, decide_eq_true_eq, Bool.or_false] at h1 ⊢;rcases h1 with h | h | h | h | h <;> simp [<- h]
 ·rw [if_neg h1] at h;by_cases h2 : y = ⟨#[63]⟩
  ·exact .inr (.inl h2)
  ·rw [if_neg h2] at h;by_cases h3 : Wrd.cls y = true
   ·exact .inr (.inr h3)
   ·rw [if_neg h3] at h; cases h
theorem typ_ok {y : ByteArray} (h : Wrd.typ y = true) (r : List T) : Ps.typ (typT y :: r) = .ok y r := by
 unfold Ps.typ;rcases typ_three h with hb | rfl | hc
 ·have : typT y = key y := by unfold typT; rw [hb, if_pos rfl]
  rw [this, Ps.take_yes, O.bind_ok]
  ·rfl
  ·rw [srt_k];unfold isBase at hb;simp only [Bool.or_eq_true, decide_eq_true_eq] at hb;rcases hb with (((rfl | rfl) | rfl) | rfl) | rfl <;> decide
 ·have : typT kAny = sgn kAny := rfl;rw [this, Ps.take_yes (by decide), O.bind_ok]
  rfl
 ·rw [typT_cls hc, Ps.take_yes (by rw [srt_c]; decide), O.bind_ok]
  rfl
theorem annot_ok {y : ByteArray} (h : Wrd.typ y = true) {r : List T} (hr : is [kColon] r = false) : Ps.annot (ann y kAny ++ r) = .ok y r := by
 unfold ann;by_cases hy : y = kAny
 ·rw [if_pos hy, List.nil_append];unfold Ps.annot;rw [hr, if_neg (by decide), hy]
 ·rw [if_neg hy]
  show Ps.annot (sgn kColon :: typT y :: r) = _
  unfold Ps.annot;rw [is_sg (show mem [kColon] kColon = true by decide), if_pos rfl];exact typ_ok h r
theorem DE.of8 {e : Nd} (h : lv e = 8) (d : ∀ k r K, En r -> (toks e ++ r).length <= k + 1 -> is [kOpen] r = false -> r.length <= K -> post (run k) (toks e ++ r) = postLoop (run k) K e r) : DE e :=
 ⟨by omega, fun _ => d, fun h' => by omega, fun j hj h' => by omega, fun h' => by omega⟩
theorem DE.prim {e : Nd} (h : lv e = 8) (d : ∀ k r, En r -> (toks e ++ r).length <= k + 1 -> Ps.prim (run k) (toks e ++ r) = .ok e r) : DE e :=
 .of8 h fun k r K hE hk _ hK => post_of_prim (d k r hE hk) hE (by rw [len_app] at hk; omega) hK
theorem d_int (n : Int) : DE (.mk 7 ⟨#[]⟩ ⟨#[]⟩ ⟨#[]⟩ n []) := .prim rfl fun k r _ _ => by rw [toks_eq]; rfl
theorem d_real (n : Int) : DE (.mk 8 ⟨#[]⟩ ⟨#[]⟩ ⟨#[]⟩ n []) := .prim rfl fun k r _ _ => by rw [toks_eq]; rfl
theorem d_noNum {t : ByteArray} (h : t = ⟨#[110, 97, 110]⟩ ∨ t = ⟨#[105, 110, 102]⟩) : DE (.mk 8 t ⟨#[]⟩ ⟨#[]⟩ 0 []) := .prim rfl fun k r _ _ => by
 rcases h with rfl | rfl <;> (rw [toks_eq]; rfl)
theorem d_bool {n : Int} (h : n = 0 ∨ n = 1) : DE (.mk 9 ⟨#[]⟩ ⟨#[]⟩ ⟨#[]⟩ n []) := .prim rfl fun k r _ _ => by
 rcases h with rfl | rfl <;> (rw [toks_eq]; rfl)
theorem d_str (t : ByteArray) : DE (.mk 10 t ⟨#[]⟩ ⟨#[]⟩ 0 []) := .prim rfl fun k r _ _ => by rw [toks_eq]; rfl
theorem d_unit : DE (.mk 11 ⟨#[]⟩ ⟨#[]⟩ ⟨#[]⟩ 0 []) := .prim rfl fun k r _ _ => by rw [toks_eq]; rfl
theorem d_none {y : ByteArray} (h : Wrd.cls y = true) : DE (.mk 12 ⟨#[]⟩ y ⟨#[]⟩ 0 []) := .prim rfl fun k r _ _ => by
 rw [toks_eq]
 show Ps.prim (run k) (key ⟨#[110, 111, 110, 101]⟩ :: typT y :: r) = _
 rw [typT_cls h]
 rfl
theorem d_this : DE (.mk 13 ⟨#[]⟩ ⟨#[]⟩ ⟨#[]⟩ 0 []) := .prim rfl fun k r _ _ => by rw [toks_eq]; rfl
theorem d_var (t : ByteArray) : DE (.mk 14 t ⟨#[]⟩ ⟨#[]⟩ 0 []) := .prim rfl fun k r _ _ => by rw [toks_eq]; rfl
theorem d_read : DE (.mk 26 ⟨#[]⟩ ⟨#[]⟩ ⟨#[]⟩ 0 []) := .prim rfl fun k r _ _ => by rw [toks_eq]; rfl
theorem d_super {t : ByteArray} {l : List Nd} (h : ∀ x ∈ l, CE x) : DE (.mk 20 t ⟨#[]⟩ ⟨#[]⟩ 0 l) := .prim rfl fun k r hE hk => by
 rw [toks_eq] at hk ⊢;have e : form 20 t ⟨#[]⟩ 0 (l.map kdN) ++ r = key ⟨#[115, 117, 112, 101, 114]⟩ :: sgn kDot :: nam t :: (brk (l.map kdN) ++ r) := rfl;have hk : (form 20 t ⟨#[]⟩ 0 (l.map kdN) ++ r).length <= k + 1 := hk
 show Ps.prim (run k) (form 20 t ⟨#[]⟩ 0 (l.map kdN) ++ r) = _
 rw [e] at hk ⊢
 show Ps.wSuper (run k) (key ⟨#[115, 117, 112, 101, 114]⟩) (sgn kDot :: nam t :: (brk (l.map kdN) ++ r)) = _
 unfold Ps.wSuper;rw [Ps.take_yes (by decide), O.bind_ok, Ps.take_yes (by rw [srt_n]; decide), O.bind_ok, args_ok h hE (by simp at hk ⊢; omega), O.bind_ok]
 rfl
theorem d_new {y : ByteArray} {l : List Nd} (hy : Wrd.cls y = true) (h : ∀ x ∈ l, CE x) : DE (.mk 21 ⟨#[]⟩ y ⟨#[]⟩ 0 l) := .prim rfl fun k r hE hk => by
 rw [toks_eq] at hk ⊢;have e : form 21 ⟨#[]⟩ y 0 (l.map kdN) ++ r = key ⟨#[110, 101, 119]⟩ :: typT y :: (brk (l.map kdN) ++ r) := rfl;have hk : (form 21 ⟨#[]⟩ y 0 (l.map kdN) ++ r).length <= k + 1 := hk
 show Ps.prim (run k) (form 21 ⟨#[]⟩ y 0 (l.map kdN) ++ r) = _
 rw [e, typT_cls hy] at hk ⊢
 show Ps.wObject (run k) (key ⟨#[110, 101, 119]⟩) (tk 2 y 0 :: (brk (l.map kdN) ++ r)) = _
 unfold Ps.wObject;rw [Ps.take_yes (by rw [srt_c]; decide), O.bind_ok, args_ok h hE (by simp at hk ⊢; omega), O.bind_ok]
 rfl
theorem d_print {a : Nd} (h : CE a) : DE (.mk 27 ⟨#[]⟩ ⟨#[]⟩ ⟨#[]⟩ 0 [a]) := .prim rfl fun k r hE hk => by
 rw [toks_eq] at hk ⊢;have hk : (key ⟨#[112, 114, 105, 110, 116]⟩ :: (bk a ++ r)).length <= k + 1 := hk
 show Ps.wPrint (run k) (key ⟨#[112, 114, 105, 110, 116]⟩) (bk a ++ r) = _
 unfold Ps.wPrint;rw [operand_ok h hE (by simp at hk ⊢; omega), O.bind_ok]
 rfl
theorem d_conv {t : ByteArray} {a : Nd} (ht : t = ⟨#[114, 101, 97, 108]⟩ ∨ t = ⟨#[105, 110, 116]⟩ ∨ t = ⟨#[108, 101, 110]⟩) (h : CE a) : DE (.mk 29 t ⟨#[]⟩ ⟨#[]⟩ 0 [a]) := .prim rfl fun k r hE hk => by
 rw [toks_eq] at hk ⊢;have hk : (key t :: (bk a ++ r)).length <= k + 1 := hk;have e : Ps.prim (run k) (key t :: (bk a ++ r)) = Ps.wConv (run k) (key t) (bk a ++ r) := by rcases ht with rfl | rfl | rfl <;> rfl
 show Ps.prim (run k) (key t :: (bk a ++ r)) = _
 rw [e];unfold Ps.wConv;rw [operand_ok h hE (by simp at hk ⊢; omega), O.bind_ok]
 rfl
theorem d_as {y : ByteArray} {a : Nd} (hy : Wrd.typ y = true) (h : CE a) : DE (.mk 28 ⟨#[]⟩ y ⟨#[]⟩ 0 [a]) := .prim rfl fun k r hE hk => by
 rw [toks_eq] at hk ⊢;have e : form 28 ⟨#[]⟩ y 0 [kdN a] ++ r = sgn kOpen :: (toks a ++ sgn kColon :: typT y :: sgn kShut :: r) := by
  show sgn kOpen :: toks a ++ sgn kColon :: typT y :: [sgn kShut] ++ r = _
  simp
 have hk : (form 28 ⟨#[]⟩ y 0 [kdN a] ++ r).length <= k + 1 := hk
 show Ps.prim (run k) (form 28 ⟨#[]⟩ y 0 [kdN a] ++ r) = _
 rw [e] at hk ⊢;have h1 := run_ex (k := k) h (((hE.cons (sgn kShut)).cons (typT y)).cons (sgn kColon)) (by simp at hk ⊢; omega) (stp_sg (by decide))
 show Ps.wBrackets (run k) (sgn kOpen) (toks a ++ sgn kColon :: typT y :: sgn kShut :: r) = _
 unfold Ps.wBrackets;rw [Ps.is_off h1.2 (by decide), if_neg (by decide), h1.1, O.bind_ok, is_sg (show mem [kColon] kColon = true by decide), if_pos rfl]
 show (Ps.typ (typT y :: sgn kShut :: r)).bind _ = _
 rw [typ_ok hy, O.bind_ok, Ps.take_yes (by decide), O.bind_ok]
 rfl
def BL (b : Nd) : Prop := (∃ u, toks b = sgn kLeft :: u) /\ ∀ k r, En r -> (toks b ++ r).length <= k + 1 -> Ps.block (run k) (toks b ++ r) = .ok b r
theorem run_bl {b : Nd} (h : BL b) {k : Nat} {r : List T} (hE : En r) (hk : (toks b ++ r).length <= k) : run k .block (toks b ++ r) = .ok b r := by
 have hp := hE.pos;obtain ⟨k, rfl⟩ : ∃ q, k = q + 1 := ⟨k - 1, by rw [len_app] at hk; omega⟩;exact h.2 k r hE hk
theorem stp_bl {b : Nd} (h : BL b) (r : List T) : Stp (toks b ++ r) := by
 obtain ⟨⟨u, e⟩, _⟩ := h;rw [e];exact stp_sg (by decide)
theorem d_cond {a b c : Nd} (h : CE a) (hb : BL b) (hc : BL c) : DE (.mk 22 ⟨#[]⟩ ⟨#[]⟩ ⟨#[]⟩ 0 [a, b, c]) := .prim rfl fun k r hE hk => by
 rw [toks_eq] at hk ⊢;have e : form 22 ⟨#[]⟩ ⟨#[]⟩ 0 [kdN a, kdN b, kdN c] ++ r = key ⟨#[105, 102]⟩ :: (toks a ++ (toks b ++ key ⟨#[101, 108, 115, 101]⟩ :: (toks c ++ r))) := by
  show key ⟨#[105, 102]⟩ :: toks a ++ toks b ++ key ⟨#[101, 108, 115, 101]⟩ :: toks c ++ r = _
  simp
 have hk : (form 22 ⟨#[]⟩ ⟨#[]⟩ 0 [kdN a, kdN b, kdN c] ++ r).length <= k + 1 := hk
 show Ps.prim (run k) (form 22 ⟨#[]⟩ ⟨#[]⟩ 0 [kdN a, kdN b, kdN c] ++ r) = _
 rw [e] at hk ⊢;have hl : (toks a).length + (toks b).length + (toks c).length + r.length + 2 <= k + 1 := by simp at hk; omega
 show Ps.wChoice (run k) (key ⟨#[105, 102]⟩) (toks a ++ (toks b ++ key ⟨#[101, 108, 115, 101]⟩ :: (toks c ++ r))) = _
 unfold Ps.wChoice;rw [(run_ex h (((hE.app (toks c)).cons _).app _) (by simp; omega) (stp_bl hb _)).1, O.bind_ok, run_bl hb ((hE.app (toks c)).cons _) (by simp; omega), O.bind_ok, Ps.take_yes (by decide), O.bind_ok, run_bl hc hE (by simp; omega), O.bind_ok]
 rfl
theorem d_loop {a b : Nd} (h : CE a) (hb : BL b) : DE (.mk 23 ⟨#[]⟩ ⟨#[]⟩ ⟨#[]⟩ 0 [a, b]) := .prim rfl fun k r hE hk => by
 rw [toks_eq] at hk ⊢;have e : form 23 ⟨#[]⟩ ⟨#[]⟩ 0 [kdN a, kdN b] ++ r = key ⟨#[119, 104, 105, 108, 101]⟩ :: (toks a ++ (toks b ++ r)) := by
  show key ⟨#[119, 104, 105, 108, 101]⟩ :: (toks a ++ [] ++ toks b) ++ r = _
  simp
 have hk : (form 23 ⟨#[]⟩ ⟨#[]⟩ 0 [kdN a, kdN b] ++ r).length <= k + 1 := hk
 show Ps.prim (run k) (form 23 ⟨#[]⟩ ⟨#[]⟩ 0 [kdN a, kdN b] ++ r) = _
 rw [e] at hk ⊢;have hl : (toks a).length + (toks b).length + r.length + 1 <= k + 1 := by simp at hk; omega
 show Ps.wLoop (run k) (key ⟨#[119, 104, 105, 108, 101]⟩) (toks a ++ (toks b ++ r)) = _
 unfold Ps.wLoop;rw [(run_ex h (hE.app _) (by simp; omega) (stp_bl hb _)).1, O.bind_ok, run_bl hb hE (by simp; omega), O.bind_ok]
 rfl
theorem get_loop {a : Nd} (h : CE a) (t : ByteArray) {k K : Nat} {r : List T} (hE : En r) (hk : (at1 8 (kdN a) ++ sgn kDot :: nam t :: r).length <= k + 1) (ho : is [kOpen] r = false) (hK : r.length <= K) :
  post (run k) (at1 8 (kdN a) ++ sgn kDot :: nam t :: r) = postLoop (run k) K (.mk 17 t ⟨#[]⟩ ⟨#[]⟩ 0 [a]) r := by
 have hkr : r.length <= k + 1 := by simp at hk; omega
 rw [h.p8 k (sgn kDot :: nam t :: r) (r.length + 2) ((hE.cons _).cons _) hk (is_sg (by decide)) (by simp)];rw [Ps.postLoop, is_sg (show mem [kDot] kDot = true by decide), if_pos rfl]
 show (Ps.take [aName] (nam t :: r)).bind _ = _
 rw [Ps.take_yes (by rw [srt_n]; decide), O.bind_ok, ho, if_neg (by decide)];exact post_K _ hE hkr (by omega) hK
theorem d_get {a : Nd} (h : CE a) (t : ByteArray) : DE (.mk 17 t ⟨#[]⟩ ⟨#[]⟩ 0 [a]) := .of8 rfl fun k r K hE hk ho hK => by
 have e : toks (.mk 17 t ⟨#[]⟩ ⟨#[]⟩ 0 [a]) ++ r = at1 8 (kdN a) ++ sgn kDot :: nam t :: r := by
  rw [toks_eq]
  show at1 8 (kdN a) ++ [sgn kDot, nam t] ++ r = _
  simp
 rw [e] at hk ⊢;exact get_loop h t hE hk ho hK
theorem d_call {a : Nd} {l : List Nd} (h : CE a) (hl : ∀ x ∈ l, CE x) (t : ByteArray) : DE (.mk 19 t ⟨#[]⟩ ⟨#[]⟩ 0 (a :: l)) := .of8 rfl fun k r K hE hk ho hK => by
 have e : toks (.mk 19 t ⟨#[]⟩ ⟨#[]⟩ 0 (a :: l)) ++ r = at1 8 (kdN a) ++ sgn kDot :: nam t :: (brk (l.map kdN) ++ r) := by
  rw [toks_eq]
  show at1 8 (kdN a) ++ sgn kDot :: nam t :: brk (l.map kdN) ++ r = _
  simp
 rw [e] at hk ⊢;have hkr : r.length <= k + 1 := by simp at hk; omega
 rw [h.p8 k _ ((brk (l.map kdN) ++ r).length + 2) (((hE.app _).cons _).cons _) hk (is_sg (by decide)) (by simp)];rw [Ps.postLoop, is_sg (show mem [kDot] kDot = true by decide), if_pos rfl]
 show (Ps.take [aName] (nam t :: (brk (l.map kdN) ++ r))).bind _ = _
 rw [Ps.take_yes (by rw [srt_n]; decide), O.bind_ok];have ho : is [kOpen] (brk (l.map kdN) ++ r) = true := is_sg (x := kOpen) (r := sep [sgn kComma] (l.map kdN) ++ [sgn kShut] ++ r) (by decide);rw [ho, if_pos rfl, args_ok hl hE (by simp at hk ⊢; omega), O.bind_ok];exact post_K _ hE hkr (by rw [len_app]; omega) hK
theorem d_un {t : ByteArray} {a : Nd} (ht : t = ⟨#[45]⟩ ∨ t = ⟨#[33]⟩) (h : CE a) : DE (.mk 24 t ⟨#[]⟩ ⟨#[]⟩ 0 [a]) := by
 have hv : lv (.mk 24 t ⟨#[]⟩ ⟨#[]⟩ 0 [a]) = 7 := rfl;refine ⟨by omega, fun h' => by omega, fun _ => ?_, fun j hj h' => by omega, fun h' => by omega⟩;intro k r hE hk hd ho;have e : toks (.mk 24 t ⟨#[]⟩ ⟨#[]⟩ 0 [a]) ++ r = sgn t :: (at1 7 (kdN a) ++ r) := by rw [toks_eq]; rfl
 rw [e] at hk ⊢;have hp := hE.pos;obtain ⟨k, rfl⟩ : ∃ q, k = q + 1 := ⟨k - 1, by simp at hk; omega⟩;have ht' : mem [Ps.kMinus, Ps.kBang] t = true := by rcases ht with rfl | rfl <;> decide
 rw [Ps.unary_eq, is_sg ht', if_pos rfl, Ps.take_yes ht', O.bind_ok]
 show (unary (run k) (at1 7 (kdN a) ++ r)).bind _ = _
 rw [h.un k r hE (by simpa using hk) hd ho, O.bind_ok]
 rfl
theorem bin_lv {t : ByteArray} (h : hasW wBin t = true) : ∃ j : Nat, j <= 5 /\ opLv t = (j : Int) + 1 /\ mem (levels j) t = true /\ (∀ i, j + 1 <= i -> mem (levels i) t = false) /\ mem [kDot] t = false /\ mem [kOpen] t = false /\ mem [kEq] t = false := by
 have h : Wrd.has (Wrd.flds wBin) t = true := h;rw [flds_bin] at h;have hi : ∀ (x : ByteArray) (j : Nat), (∀ i, i < 6 -> j + 1 <= i -> mem (levels i) x = false) -> ∀ i, j + 1 <= i -> mem (levels i) x = false := by
  intro x j hx i hj;rcases Nat.lt_or_ge i 6 with h6 | h6
  ·exact hx i h6 hj
  ·obtain ⟨q, rfl⟩ : ∃ q, i = q + 6 := ⟨i - 6, by omega⟩
   rfl
 unfold Wrd.has at h;simp only [List.any_cons, List.any_nil, Bool.or_eq_true, decide_eq_true_eq, Bool.or_false] at h;rcases h with rfl | rfl | rfl | rfl | rfl | rfl | rfl | rfl | rfl | rfl | rfl
 ·exact ⟨0, by decide, by decide, by decide, hi _ _ (by decide), by decide, by decide, by decide⟩
 ·exact ⟨1, by decide, by decide, by decide, hi _ _ (by decide), by decide, by decide, by decide⟩
 ·exact ⟨2, by decide, by decide, by decide, hi _ _ (by decide), by decide, by decide, by decide⟩
 ·exact ⟨2, by decide, by decide, by decide, hi _ _ (by decide), by decide, by decide, by decide⟩
 ·exact ⟨3, by decide, by decide, by decide, hi _ _ (by decide), by decide, by decide, by decide⟩
 ·exact ⟨3, by decide, by decide, by decide, hi _ _ (by decide), by decide, by decide, by decide⟩
 ·exact ⟨4, by decide, by decide, by decide, hi _ _ (by decide), by decide, by decide, by decide⟩
 ·exact ⟨4, by decide, by decide, by decide, hi _ _ (by decide), by decide, by decide, by decide⟩
 ·exact ⟨5, by decide, by decide, by decide, hi _ _ (by decide), by decide, by decide, by decide⟩
 ·exact ⟨5, by decide, by decide, by decide, hi _ _ (by decide), by decide, by decide, by decide⟩
 ·exact ⟨5, by decide, by decide, by decide, hi _ _ (by decide), by decide, by decide, by decide⟩
theorem d_bin {t : ByteArray} {a b : Nd} (ht : hasW wBin t = true) (ha : CE a) (hb : CE b) : DE (.mk 25 t ⟨#[]⟩ ⟨#[]⟩ 0 [a, b]) := by
 obtain ⟨j, hj, hv, hm, hi, hd, ho, hq⟩ := bin_lv ht;have hlv : lv (.mk 25 t ⟨#[]⟩ ⟨#[]⟩ 0 [a, b]) = opLv t := rfl;refine ⟨by omega, fun h' => by omega, fun h' => by omega, fun j' hj' h' => ?_, fun h' => by omega⟩;obtain rfl : j' = j := by omega
 intro k r K hE hk hF hK;have e : toks (.mk 25 t ⟨#[]⟩ ⟨#[]⟩ 0 [a, b]) ++ r = at1 ((j' : Int) + 1) (kdN a) ++ sgn t :: (at1 ((j' : Int) + 1 + 1) (kdN b) ++ r) := by
  rw [toks_eq, <- hv]
  show at1 (opLv t) (kdN a) ++ sgn t :: at1 (opLv t + 1) (kdN b) ++ r = _
  simp
 rw [e] at hk ⊢;have hp := hE.pos;have hl : (at1 ((j' : Int) + 1) (kdN a)).length + (at1 ((j' : Int) + 1 + 1) (kdN b)).length + r.length + 1 <= k + 1 := by simp at hk; omega
 obtain ⟨k, rfl⟩ : ∃ q, k = q + 1 := ⟨k - 1, by omega⟩;rw [ha.op j' hj (k + 1) _ ((at1 ((j' : Int) + 1 + 1) (kdN b) ++ r).length + 1) ((hE.app _).cons _) hk ⟨is_sg hd, is_sg ho, fun i h => is_sg (hi i h)⟩ (by simp)];rw [Ps.lvl_eq, is_sg hm, if_pos rfl, Ps.take_yes hm, O.bind_ok];have hb' : oper (run k) (j' + 1) (at1 ((j' : Int) + 1 + 1) (kdN b) ++ r) = .ok b r := by
  by_cases h5 : j' = 5
  ·subst h5;rw [Ps.oper6];exact hb.un k r hE (by rw [len_app]; show (at1 ((5 : Nat) + 1 + 1 : Int) (kdN b)).length + r.length <= k + 1; omega) hF.1 hF.2.1
  ·have := hb.op (j' + 1) (by omega) k r r.length hE (by rw [len_app]; show (at1 (((j' + 1 : Nat) : Int) + 1) (kdN b)).length + r.length <= k + 1; rw [Int.natCast_add]; show (at1 ((j' : Int) + 1 + 1) (kdN b)).length + r.length <= k + 1; omega) (hF.up (by omega)) (Nat.le_refl _);rw [Ps.lvl_no (hF.2.2 (j' + 1) (Nat.le_refl _)), Int.natCast_add] at this;exact this
 show (oper (run k) (j' + 1) (at1 ((j' : Int) + 1 + 1) (kdN b) ++ r)).bind _ = _
 rw [hb', O.bind_ok];exact lvl_K _ hE (by omega) (by rw [len_app]; omega) hK
theorem ex_set {g a : Nd} (h : CE g) (h1 : 1 <= lv g) (ha : CE a) (hk0 : Ps.setK g.kind ≠ 0) {k : Nat} {r : List T} (hE : En r) (hk : (toks g ++ sgn kEq :: (toks a ++ r)).length <= k + 1) (hs : Stp r) :
  expr (run k) (toks g ++ sgn kEq :: (toks a ++ r)) = .ok (.mk (Ps.setK g.kind) g.text g.typ g.frm g.n (g.kids ++ [a])) r := by
 have hF : Fin 1 (sgn kEq :: (toks a ++ r)) := fin_of (l := sgn kEq :: (toks a ++ r)) (show mem (kDot :: kOpen :: ops) kEq = false by decide);have hx : at1 (((0 : Nat) : Int) + 1) (kdN g) = toks g := at1_hi (by omega);have ho := h.op 0 (by omega) k (sgn kEq :: (toks a ++ r)) (sgn kEq :: (toks a ++ r)).length ((hE.app _).cons _) (by rw [hx]; exact hk) hF (Nat.le_refl _);rw [hx, Ps.lvl_no (is_sg (show mem (levels 0) kEq = false by decide))] at ho;unfold Ps.expr;rw [ho, O.bind_ok, is_sg (show mem [kEq] kEq = true by decide), if_pos rfl, if_neg hk0]
 show (run k .expr (toks a ++ r)).bind _ = _
 rw [(run_ex ha hE (by simp at hk ⊢; omega) hs).1, O.bind_ok]
theorem DE.of0 {e : Nd} (h : lv e = 0) (d : EX e) : DE e := ⟨by omega, fun h' => by omega, fun h' => by omega, fun j hj h' => by omega, fun _ => d⟩
theorem d_set {a : Nd} (h : CE a) (t : ByteArray) : DE (.mk 16 t ⟨#[]⟩ ⟨#[]⟩ 0 [a]) := .of0 rfl fun k r hE hk hF hq => by
 have e : toks (.mk 16 t ⟨#[]⟩ ⟨#[]⟩ 0 [a]) ++ r = toks (.mk 14 t ⟨#[]⟩ ⟨#[]⟩ 0 []) ++ sgn kEq :: (toks a ++ r) := by rw [toks_eq, toks_eq]; rfl
 rw [e] at hk ⊢;exact ex_set (assemble (d_var t)) (show (1 : Int) <= 8 by decide) h (show Ps.setK 14 ≠ 0 by decide) hE hk ⟨hF, hq⟩
theorem d_put {a b : Nd} (h : CE a) (hb : CE b) (t : ByteArray) : DE (.mk 18 t ⟨#[]⟩ ⟨#[]⟩ 0 [a, b]) := .of0 rfl fun k r hE hk hF hq => by
 have e : toks (.mk 18 t ⟨#[]⟩ ⟨#[]⟩ 0 [a, b]) ++ r = toks (.mk 17 t ⟨#[]⟩ ⟨#[]⟩ 0 [a]) ++ sgn kEq :: (toks b ++ r) := by
  rw [toks_eq, toks_eq]
  show at1 8 (kdN a) ++ sgn kDot :: nam t :: sgn kEq :: toks b ++ r = at1 8 (kdN a) ++ [sgn kDot, nam t] ++ sgn kEq :: (toks b ++ r)
  simp
 rw [e] at hk ⊢;exact ex_set (assemble (d_get h t)) (show (1 : Int) <= 8 by decide) hb (show Ps.setK 17 ≠ 0 by decide) hE hk ⟨hF, hq⟩
end Pr
namespace Pr
open Ps (O En Fin run post unary oper expr postLoop lvl is mem levels kDot kOpen kShut kEq kComma kSemi kLeft kRight kColon nd e0 aName aClass kAny)
def EN (y : Nd) : Prop := ∀ k r, En r -> (toks y ++ r).length <= k -> Stp r -> Ps.entry (run k) (toks y ++ r) = .ok y r /\ is [kRight] (toks y ++ r) = false
theorem en_ex {e : Nd} (h : CE e) : EN e := by
 intro k r hE hk hs;have h1 := run_ex h hE hk hs;unfold Ps.entry;rw [Ps.is_off h1.2 (by decide), if_neg (by decide)];exact ⟨h1.1, Ps.is_off h1.2 (by decide)⟩
theorem en_let {t y : ByteArray} {a : Nd} (hy : Wrd.typ y = true) (h : CE a) : EN (.mk 15 t y ⟨#[]⟩ 0 [a]) := by
 intro k r hE hk hs;have e : toks (.mk 15 t y ⟨#[]⟩ 0 [a]) ++ r = key ⟨#[108, 101, 116]⟩ :: nam t :: (ann y kAny ++ sgn kEq :: (toks a ++ r)) := by
  rw [toks_eq]
  show key ⟨#[108, 101, 116]⟩ :: nam t :: ann y kAny ++ sgn kEq :: toks a ++ r = _
  simp
 rw [e] at hk ⊢;refine ⟨?_, is_ky (by decide)⟩;unfold Ps.entry;rw [is_ky (show mem [⟨#[108, 101, 116]⟩] ⟨#[108, 101, 116]⟩ = true by decide), if_pos rfl]
 show (Ps.take [aName] (nam t :: (ann y kAny ++ sgn kEq :: (toks a ++ r)))).bind _ = _
 rw [Ps.take_yes (by rw [srt_n]; decide), O.bind_ok, annot_ok hy (is_sg (by decide)), O.bind_ok, Ps.take_yes (by decide), O.bind_ok, (run_ex h hE (by simp at hk ⊢; omega) hs).1, O.bind_ok]
 rfl
theorem blockLoop_ok {k : Nat} : ∀ (x : Nd) (l acc : List Nd) (K : Nat) (r : List T), (∀ y ∈ x :: l, EN y) -> En r -> l.length + 1 < K -> (toks x ++ (tl (sgn kSemi) l ++ sgn kRight :: r)).length <= k ->
  Ps.blockLoop (run k) K acc (toks x ++ (tl (sgn kSemi) l ++ sgn kRight :: r)) = .ok (nd 6 e0 e0 0 (acc ++ x :: l)) r
 | x, [], acc, K + 1, r, h, hE, hK, hk => by
  have h1 := h x (by simp) k (sgn kRight :: r) (hE.cons _) hk (stp_sg (by decide))
  show Ps.blockLoop (run k) (K + 1) acc (toks x ++ sgn kRight :: r) = _
  rw [Ps.blockLoop, h1.2, if_neg (by decide), h1.1, O.bind_ok, is_sg (show mem [kSemi] kRight = false by decide), if_neg (by decide), Ps.take_yes (by decide), O.bind_ok]
 | x, y :: l, acc, K + 1, r, h, hE, hK, hk => by
  have e : tl (sgn kSemi) (y :: l) ++ sgn kRight :: r = sgn kSemi :: (toks y ++ (tl (sgn kSemi) l ++ sgn kRight :: r)) := by rw [tl_cons]; simp
  rw [e] at hk ⊢;have h1 := h x (by simp) k (sgn kSemi :: (toks y ++ (tl (sgn kSemi) l ++ sgn kRight :: r))) ((((hE.cons _).app _).app _).cons _) hk (stp_sg (by decide));rw [Ps.blockLoop, h1.2, if_neg (by decide), h1.1, O.bind_ok, is_sg (show mem [kSemi] kSemi = true by decide), if_pos rfl]
  show Ps.blockLoop (run k) K (acc ++ [x]) (toks y ++ (tl (sgn kSemi) l ++ sgn kRight :: r)) = _
  rw [blockLoop_ok y l (acc ++ [x]) K r (fun z hz => h z (List.mem_cons_of_mem _ hz)) hE (by simp at hK; omega) (by simp at hk ⊢; omega)];simp
theorem d_block {l : List Nd} (h : ∀ y ∈ l, EN y) : BL (.mk 6 ⟨#[]⟩ ⟨#[]⟩ ⟨#[]⟩ 0 l) := by
 have e0 : toks (.mk 6 ⟨#[]⟩ ⟨#[]⟩ ⟨#[]⟩ 0 l) = sgn kLeft :: (sep [sgn kSemi] (l.map kdN) ++ [sgn kRight]) := by
  rw [toks_eq]; rfl
 refine ⟨⟨_, e0⟩, fun k r hE hk => ?_⟩;rw [e0] at hk ⊢
 cases l with
 | nil =>
  show Ps.block (run k) (sgn kLeft :: sgn kRight :: r) = _
  unfold Ps.block;rw [Ps.take_yes (by decide), O.bind_ok, Ps.blockLoop, is_sg (show mem [kRight] kRight = true by decide), if_pos rfl]
  rfl
 | cons x l =>
  have e : sgn kLeft :: (sep [sgn kSemi] ((x :: l).map kdN) ++ [sgn kRight]) ++ r = sgn kLeft :: (toks x ++ (tl (sgn kSemi) l ++ sgn kRight :: r)) := by rw [sep_nd]; simp
  rw [e] at hk ⊢;unfold Ps.block;rw [Ps.take_yes (by decide), O.bind_ok, blockLoop_ok x l [] _ r h hE (by have := tl_len (sgn kSemi) l; simp; omega) (by simpa using hk)]
  rfl
structure C (y : Nd) : Prop where
 ex : Ex y -> CE y
 bl : y.kind = 6 -> BL y
 en : Ex y ∨ y.kind = 15 -> EN y
theorem C.of_ex {y : Nd} (D : DE y) (h6 : y.kind ≠ 6) : C y := ⟨fun _ => assemble D, fun h => absurd h h6, fun _ => en_ex (assemble D)⟩
theorem not_ex {y : Nd} (h : ¬ y.kind ∈ exprK) (h6 : y.kind ≠ 6) (h15 : y.kind ≠ 15) : C y := ⟨fun e => absurd e h, fun e => absurd e h6, fun e => (e.elim h h15).elim⟩
theorem all_c (x : Nd) : Wf x -> C x := by
 refine Nd.ind (P := fun x => Wf x -> C x) (fun x ih hw => ?_) x;have hk : ∀ y ∈ x.kids, C y := fun y hy => ih y hy (hw.kid hy);have hs := hw.sh;clear ih hw
 cases hs with
 | prog cs b h1 h2 => exact not_ex (show ¬ (1 : Int) ∈ exprK by decide) (show (1 : Int) ≠ 6 by decide) (show (1 : Int) ≠ 15 by decide)
 | clas t y fs ms ht hy h1 h2 => exact not_ex (show ¬ (2 : Int) ∈ exprK by decide) (show (2 : Int) ≠ 6 by decide) (show (2 : Int) ≠ 15 by decide)
 | field t y ht hy => exact not_ex (show ¬ (3 : Int) ∈ exprK by decide) (show (3 : Int) ≠ 6 by decide) (show (3 : Int) ≠ 15 by decide)
 | method t y ps b ht hy h1 h2 => exact not_ex (show ¬ (4 : Int) ∈ exprK by decide) (show (4 : Int) ≠ 6 by decide) (show (4 : Int) ≠ 15 by decide)
 | param t y ht hy => exact not_ex (show ¬ (5 : Int) ∈ exprK by decide) (show (5 : Int) ≠ 6 by decide) (show (5 : Int) ≠ 15 by decide)
 | block l h => exact ⟨fun e => absurd e (show ¬ (6 : Int) ∈ exprK by decide), fun _ => d_block fun y hy => (hk y hy).en (h y hy), fun e => (e.elim (show ¬ (6 : Int) ∈ exprK by decide) (show (6 : Int) ≠ 15 by decide)).elim⟩
 | int n h => exact .of_ex (d_int n) (show (7 : Int) ≠ 6 by decide)
 | real n h => exact .of_ex (d_real n) (show (8 : Int) ≠ 6 by decide)
 | noNum t h => exact .of_ex (d_noNum h) (show (8 : Int) ≠ 6 by decide)
 | bool n h => exact .of_ex (d_bool h) (show (9 : Int) ≠ 6 by decide)
 | str t h hs => exact .of_ex (d_str t) (show (10 : Int) ≠ 6 by decide)
 | unit => exact .of_ex d_unit (show (11 : Int) ≠ 6 by decide)
 | none y hy => exact .of_ex (d_none hy) (show (12 : Int) ≠ 6 by decide)
 | this => exact .of_ex d_this (show (13 : Int) ≠ 6 by decide)
 | var t ht => exact .of_ex (d_var t) (show (14 : Int) ≠ 6 by decide)
 | let_ t y a ht hy h => exact ⟨fun e => absurd e (show ¬ (15 : Int) ∈ exprK by decide), fun e => absurd e (show (15 : Int) ≠ 6 by decide), fun _ => en_let hy ((hk a (by simp [Nd.kids])).ex h)⟩
 | set t a ht h => exact .of_ex (d_set ((hk a (by simp [Nd.kids])).ex h) t) (show (16 : Int) ≠ 6 by decide)
 | get t a ht h => exact .of_ex (d_get ((hk a (by simp [Nd.kids])).ex h) t) (show (17 : Int) ≠ 6 by decide)
 | put t a b ht h h2 => exact .of_ex (d_put ((hk a (by simp [Nd.kids])).ex h) ((hk b (by simp [Nd.kids])).ex h2) t) (show (18 : Int) ≠ 6 by decide)
 | call t a l ht h hl => exact .of_ex (d_call ((hk a (by simp [Nd.kids])).ex h) (fun y hy => (hk y (by simp [Nd.kids, hy])).ex (hl y hy)) t) (show (19 : Int) ≠ 6 by decide)
 | super t l ht hl => exact .of_ex (d_super fun y hy => (hk y hy).ex (hl y hy)) (show (20 : Int) ≠ 6 by decide)
 | new y l hy hl => exact .of_ex (d_new hy fun y hy => (hk y hy).ex (hl y hy)) (show (21 : Int) ≠ 6 by decide)
 | cond a b c h h1 h2 => exact .of_ex (d_cond ((hk a (by simp [Nd.kids])).ex h) ((hk b (by simp [Nd.kids])).bl h1) ((hk c (by simp [Nd.kids])).bl h2)) (show (22 : Int) ≠ 6 by decide)
 | loop a b h h1 => exact .of_ex (d_loop ((hk a (by simp [Nd.kids])).ex h) ((hk b (by simp [Nd.kids])).bl h1)) (show (23 : Int) ≠ 6 by decide)
 | un t a ht h => exact .of_ex (d_un ht ((hk a (by simp [Nd.kids])).ex h)) (show (24 : Int) ≠ 6 by decide)
 | bin t a b ht h h2 => exact .of_ex (d_bin ht ((hk a (by simp [Nd.kids])).ex h) ((hk b (by simp [Nd.kids])).ex h2)) (show (25 : Int) ≠ 6 by decide)
 | read => exact .of_ex d_read (show (26 : Int) ≠ 6 by decide)
 | print a h => exact .of_ex (d_print ((hk a (by simp [Nd.kids])).ex h)) (show (27 : Int) ≠ 6 by decide)
 | as_ y a hy h => exact .of_ex (d_as hy ((hk a (by simp [Nd.kids])).ex h)) (show (28 : Int) ≠ 6 by decide)
 | conv t a ht h => exact .of_ex (d_conv ht ((hk a (by simp [Nd.kids])).ex h)) (show (29 : Int) ≠ 6 by decide)
theorem param_ok {x : Nd} (hw : Wf x) (h5 : x.kind = 5) {r : List T} (hr : is [kColon] r = false) : Ps.param (toks x ++ r) = .ok x r /\ is [kShut] (toks x ++ r) = false := by
 have hs := hw.sh
 cases hs <;> try (simp [Nd.kind] at h5; done)
 rename_i t y ht hy
 have e : toks (.mk 5 t y ⟨#[]⟩ 0 []) ++ r = nam t :: (ann y kAny ++ r) := by rw [toks_eq]; rfl
 rw [e];refine ⟨?_, is_nm (by decide)⟩;unfold Ps.param;rw [Ps.take_yes (by rw [srt_n]; decide), O.bind_ok, annot_ok hy hr, O.bind_ok]
 rfl
theorem field_ok {x : Nd} (hw : Wf x) (h3 : x.kind = 3) (r : List T) : (∃ u, toks x = key ⟨#[118, 97, 114]⟩ :: u) /\ Ps.field (toks x ++ r) = .ok x r := by
 have hs := hw.sh
 cases hs <;> try (simp [Nd.kind] at h3; done)
 rename_i t y ht hy
 have e0 : toks (.mk 3 t y ⟨#[]⟩ 0 []) = key ⟨#[118, 97, 114]⟩ :: nam t :: (ann y kAny ++ [sgn kSemi]) := by rw [toks_eq]; rfl
 refine ⟨⟨_, e0⟩, ?_⟩;rw [e0]
 show Ps.field (key ⟨#[118, 97, 114]⟩ :: nam t :: (ann y kAny ++ [sgn kSemi] ++ r)) = _
 rw [List.append_assoc]
 show Ps.field (key ⟨#[118, 97, 114]⟩ :: nam t :: (ann y kAny ++ sgn kSemi :: r)) = _
 unfold Ps.field;rw [Ps.take_yes (by decide), O.bind_ok, Ps.take_yes (by rw [srt_n]; decide), O.bind_ok, annot_ok hy (is_sg (show mem [kColon] kSemi = false by decide)), O.bind_ok]
 show (Ps.take [kSemi] (sgn kSemi :: r)).bind _ = _
 rw [Ps.take_yes (by decide), O.bind_ok]
 rfl
theorem parts_param {k : Nat} {l : List Nd} (h : ∀ x ∈ l, Wf x /\ x.kind = 5) : Parts Ps.param k l := by
 intro x hx r hE hr _;refine param_ok (h x hx).1 (h x hx).2 ?_
 show mem [kColon] (Ps.hd r) = false
 rcases hr with e | e <;> rw [e] <;> decide
theorem method_ok {x : Nd} (hw : Wf x) (h4 : x.kind = 4) {k : Nat} {r : List T} (hE : En r) (hk : (toks x ++ r).length <= k) : (∃ u, toks x = key ⟨#[100, 101, 102]⟩ :: u) /\ Ps.method (run k) (toks x ++ r) = .ok x r := by
 have hkid : ∀ y ∈ x.kids, Wf y := fun y hy => hw.kid hy;have hs := hw.sh;clear hw
 cases hs <;> try (simp [Nd.kind] at h4; done)
 rename_i t y ps b ht hy h1 h2
 have hb : BL b := (all_c b (hkid b (by simp [Nd.kids]))).bl h2;have hps : ∀ z ∈ ps, Wf z /\ z.kind = 5 := fun z hz => ⟨hkid z (by simp [Nd.kids, hz]), h1 z hz⟩;have e0 : toks (.mk 4 t y ⟨#[]⟩ 0 (ps ++ [b])) = key ⟨#[100, 101, 102]⟩ :: nam t :: (brk (ps.map kdN) ++ (ann y kAny ++ toks b)) := by
  rw [toks_eq]
  show key ⟨#[100, 101, 102]⟩ :: nam t :: brk ((ps ++ [b]).map kdN).dropLast ++ ann y kAny ++ (lastK ((ps ++ [b]).map kdN)).2 = _
  rw [List.map_append, List.map_cons, List.map_nil, List.dropLast_concat];unfold lastK;rw [List.getLastD_concat];simp
 refine ⟨⟨_, e0⟩, ?_⟩;rw [e0] at hk ⊢;have e : key ⟨#[100, 101, 102]⟩ :: nam t :: (brk (ps.map kdN) ++ (ann y kAny ++ toks b)) ++ r = key ⟨#[100, 101, 102]⟩ :: nam t :: (brk (ps.map kdN) ++ (ann y kAny ++ (toks b ++ r))) := by simp
 rw [e] at hk ⊢;unfold Ps.method;rw [Ps.take_yes (by decide), O.bind_ok, Ps.take_yes (by rw [srt_n]; decide), O.bind_ok, list_ok (M := k) (parts_param hps) ((hE.app _).app _) (by simp at hk ⊢; omega), O.bind_ok];have hc : is [kColon] (toks b ++ r) = false := by
  obtain ⟨⟨u, e⟩, _⟩ := hb;rw [e]; exact is_sg (by decide)
 rw [annot_ok hy hc, O.bind_ok, run_bl hb hE (by simp at hk ⊢; omega), O.bind_ok]
 rfl
theorem many_ok {s : ByteArray} {part : List T -> O Nd} {M : Nat} : ∀ (l acc : List Nd) (K : Nat) (r : List T), (∀ x ∈ l, ∀ r, En r -> (toks x ++ r).length <= M -> (∃ u, toks x = key s :: u) /\ part (toks x ++ r) = .ok x r) -> En r -> is [s] r = false -> l.length <= K -> (l.flatMap toks ++ r).length <= M ->
  Ps.many s part K acc (l.flatMap toks ++ r) = .ok (acc ++ l) r
 | [], acc, K, r, h, hE, hr, hK, hM => by
  rw [List.append_nil]
  show Ps.many s part K acc r = _
  cases K with
  | zero => rfl
  | succ K => rw [Ps.many, hr]; rfl
 | x :: l, acc, K + 1, r, h, hE, hr, hK, hM => by
  rw [List.flatMap_cons, List.append_assoc] at hM ⊢;obtain ⟨⟨u, hu⟩, hp⟩ := h x (by simp) (l.flatMap toks ++ r) (hE.app _) hM;have hi : is [s] (toks x ++ (l.flatMap toks ++ r)) = true := by
   rw [hu]
   show mem [s] s = true
   rw [Ps.mem_cons, decide_eq_true rfl]; rfl
  rw [Ps.many, hi, if_pos rfl, hp, O.bind_ok, many_ok l (acc ++ [x]) K r (fun y hy => h y (List.mem_cons_of_mem _ hy)) hE hr (by simpa using hK) (by rw [len_app] at hM; omega)];simp
theorem sep_flat : ∀ l : List Nd, sep [] (l.map kdN) = l.flatMap toks
 | [] => rfl
 | x :: l => by
  rw [List.map_cons, sep_cons, List.flatMap_cons, List.flatMap_map]
  rfl
theorem flat_len {s : ByteArray} : ∀ l : List Nd, (∀ x ∈ l, ∃ u, toks x = key s :: u) -> l.length <= (l.flatMap toks).length
 | [], _ => Nat.le_refl _
 | x :: l, h => by
  obtain ⟨u, e⟩ := h x (by simp);have := flat_len l fun y hy => h y (List.mem_cons_of_mem _ hy);rw [List.flatMap_cons, e, len_app, List.length_cons, List.length_cons];omega
theorem class_ok {x : Nd} (hw : Wf x) (h2 : x.kind = 2) {k : Nat} {r : List T} (hE : En r) (hk : (toks x ++ r).length <= k) : (∃ u, toks x = key ⟨#[99, 108, 97, 115, 115]⟩ :: u) /\ Ps.class1 (run k) (toks x ++ r) = .ok x r := by
 have hkid : ∀ y ∈ x.kids, Wf y := fun y hy => hw.kid hy;have hs := hw.sh;clear hw
 cases hs <;> try (simp [Nd.kind] at h2; done)
 rename_i t y fs ms ht hy h3 h4
 have hf : ∀ z ∈ fs, ∀ r, En r -> (toks z ++ r).length <= k -> (∃ u, toks z = key ⟨#[118, 97, 114]⟩ :: u) /\ Ps.field (toks z ++ r) = .ok z r := fun z hz r _ _ => field_ok (hkid z (by simp [Nd.kids, hz])) (h3 z hz) r;have hm : ∀ z ∈ ms, ∀ r, En r -> (toks z ++ r).length <= k -> (∃ u, toks z = key ⟨#[100, 101, 102]⟩ :: u) /\ Ps.method (run k) (toks z ++ r) = .ok z r := fun z hz r hE hk => method_ok (hkid z (by simp [Nd.kids, hz])) (h4 z hz) hE hk;have hT0 : toks (.mk 2 t y ⟨#[]⟩ 0 (fs ++ ms)) = key ⟨#[99, 108, 97, 115, 115]⟩ :: tk 2 t 0 :: (ann y e0 ++ sgn kLeft :: (fs.flatMap toks ++ (ms.flatMap toks ++ [sgn kRight]))) := by
  rw [toks_eq]
  show key ⟨#[99, 108, 97, 115, 115]⟩ :: typT t :: ann y e0 ++ sgn kLeft :: sep [] ((fs ++ ms).map kdN) ++ [sgn kRight] = _
  rw [sep_flat, typT_cls ht, List.flatMap_append];simp
 refine ⟨⟨_, hT0⟩, ?_⟩;rw [hT0] at hk ⊢;have e : key ⟨#[99, 108, 97, 115, 115]⟩ :: tk 2 t 0 :: (ann y e0 ++ sgn kLeft :: (fs.flatMap toks ++ (ms.flatMap toks ++ [sgn kRight]))) ++ r = key ⟨#[99, 108, 97, 115, 115]⟩ :: tk 2 t 0 :: (ann y e0 ++ sgn kLeft :: (fs.flatMap toks ++ (ms.flatMap toks ++ sgn kRight :: r))) := by simp
 rw [e] at hk ⊢;have hE1 : En (sgn kRight :: r) := hE.cons _;have hy1 : (if is [kColon] (ann y e0 ++ sgn kLeft :: (fs.flatMap toks ++ (ms.flatMap toks ++ sgn kRight :: r))) then (Ps.take [aClass] (ann y e0 ++ sgn kLeft :: (fs.flatMap toks ++ (ms.flatMap toks ++ sgn kRight :: r))).tail).bind fun y r => .ok y.text r else .ok e0 (ann y e0 ++ sgn kLeft :: (fs.flatMap toks ++ (ms.flatMap toks ++ sgn kRight :: r)))) = O.ok y (sgn kLeft :: (fs.flatMap toks ++ (ms.flatMap toks ++ sgn kRight :: r))) := by
  unfold ann;by_cases hye : y = e0
  ·rw [if_pos hye, List.nil_append, is_sg (show mem [kColon] kLeft = false by decide), if_neg (by decide), hye]
  ·rw [if_neg hye];have hc := hy.resolve_left hye;rw [typT_cls hc]
   show (if is [kColon] (sgn kColon :: tk 2 y 0 :: _) then (Ps.take [aClass] (tk 2 y 0 :: _)).bind _ else _) = _
   rw [is_sg (show mem [kColon] kColon = true by decide), if_pos rfl, Ps.take_yes (by rw [srt_c]; decide), O.bind_ok]
   rfl
 have hv : is [⟨#[118, 97, 114]⟩] (ms.flatMap toks ++ sgn kRight :: r) = false := by
  cases ms with
  | nil => exact is_sg (by decide)
  | cons z ms =>
   obtain ⟨⟨u, e⟩, _⟩ := hm z (by simp) _ (hE1.app (ms.flatMap toks)) (by simp at hk ⊢; omega);rw [List.flatMap_cons, e];exact is_ky (by decide)
 have hfl := flat_len fs fun z hz => (field_ok (hkid z (by simp [Nd.kids, hz])) (h3 z hz) []).1;have hml := flat_len ms fun z hz => by
  obtain ⟨q, q', e⟩ := List.append_of_mem hz;exact (hm z hz _ (hE1.app (q'.flatMap toks)) (by rw [e] at hk; simp at hk ⊢; omega)).1
 unfold Ps.class1;rw [Ps.take_yes (by decide), O.bind_ok, Ps.take_yes (by rw [srt_c]; decide), O.bind_ok];rw [hy1, O.bind_ok, Ps.take_yes (by decide), O.bind_ok];rw [many_ok fs [] _ _ hf (hE1.app _) hv (by rw [len_app]; omega) (by simp at hk ⊢; omega), O.bind_ok];rw [many_ok ms _ _ _ hm hE1 (is_sg (by decide)) (by rw [len_app]; omega) (by simp at hk ⊢; omega), O.bind_ok, Ps.take_yes (by decide), O.bind_ok]
 rfl
theorem whole_toks {x : Nd} (hw : Wf x) (h1 : x.kind = 1) (n : Int) : Ps.whole (toks x ++ [Ps.theEndT n]) = .ok x [] := by
 have hkid : ∀ y ∈ x.kids, Wf y := fun y hy => hw.kid hy;have hs := hw.sh;clear hw
 cases hs <;> try (simp [Nd.kind] at h1; done)
 rename_i cs b h2 h6
 have hb : BL b := (all_c b (hkid b (by simp [Nd.kids]))).bl h6;have hE : En [Ps.theEndT n] := ⟨[], _, rfl, rfl⟩;have e : toks (.mk 1 ⟨#[]⟩ ⟨#[]⟩ ⟨#[]⟩ 0 (cs ++ [b])) ++ [Ps.theEndT n] = cs.flatMap toks ++ key ⟨#[109, 97, 105, 110]⟩ :: (toks b ++ [Ps.theEndT n]) := by
  rw [toks_eq]
  show sep [] ((cs ++ [b]).map kdN).dropLast ++ key ⟨#[109, 97, 105, 110]⟩ :: (lastK ((cs ++ [b]).map kdN)).2 ++ _ = _
  rw [List.map_append, List.map_cons, List.map_nil, List.dropLast_concat, sep_flat];unfold lastK;rw [List.getLastD_concat];simp
 rw [e];obtain ⟨k, hk⟩ : ∃ k, (cs.flatMap toks ++ key ⟨#[109, 97, 105, 110]⟩ :: (toks b ++ [Ps.theEndT n])).length = k := ⟨_, rfl⟩;have hcl : ∀ z ∈ cs, ∀ r, En r -> (toks z ++ r).length <= k -> (∃ u, toks z = key ⟨#[99, 108, 97, 115, 115]⟩ :: u) /\ Ps.class1 (run k) (toks z ++ r) = .ok z r := fun z hz r hE hk => class_ok (hkid z (by simp [Nd.kids, hz])) (h2 z hz) hE hk;have hcn := flat_len cs fun z hz => by
  obtain ⟨q, q', e⟩ := List.append_of_mem hz;exact (hcl z hz _ (hE.app (q'.flatMap toks)) (by rw [e] at hk; simp at hk ⊢; omega)).1
 unfold Ps.whole Ps.program;rw [hk, many_ok cs [] _ _ hcl ((hE.app _).cons _) (is_ky (by decide)) (by rw [len_app] at hk; omega) (by omega), O.bind_ok, Ps.take_yes (by decide), O.bind_ok, run_bl hb hE (by simp at hk ⊢; omega), O.bind_ok, O.bind_ok, Ps.take_yes (show mem [Ps.theEnd] Ps.theEnd = true by decide), O.bind_ok]
 rfl
end Pr
end Go.Proofs.YtegcgflhgfmkpaaGreatDoor
