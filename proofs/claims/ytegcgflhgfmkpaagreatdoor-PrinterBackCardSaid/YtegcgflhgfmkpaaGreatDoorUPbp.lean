import Derived.Test.YtegcgflhgfmkpaaGreatDoorUTkm
import Derived.Test.YtegcgflhgfmkpaaGreatDoorUw34
import Derived.Test.YtegcgflhgfmkpaaGreatDoorUw35
import Derived.Test.YtegcgflhgfmkpaaGreatDoorUw36
set_option linter.unusedSimpArgs false
set_option linter.unusedVariables false
set_option maxRecDepth 100000
set_option maxHeartbeats 16000000
namespace Go.Proofs.YtegcgflhgfmkpaaGreatDoor
open Lib (hid)
open _root_.Go.Proofs.Tryz
open Go.ChangeShapes Go.WideShapes Go.ChangeAt Go.RowKit Go.Shelf
attribute [local go_sem] Oper.semAt_some
open Pr (toks)
theorem parses_c (s : ByteArray) (hs : s.size <= 1000000) (x : Nd) (v : Value) (w : World) (hT : PTab w) (hv : Mk w x v) (hp : parseP s.data.toList = .tree x) :
  Calls prog 8 #[.string s, ndV x v] w fun e w' => e = .returned (.bool true) /\ Kept w w' := by
 obtain ⟨W1, hW1⟩ : ∃ W, w.alloc (.cells (ndA x v) nT) = W := ⟨_, rfl⟩;have k1 := kpA hW1;have b1 : Blk W1 w.heap.size nT (ndA x v) := by rw [<- hW1]; exact Blk.new _ _ _
 have hcv := Lib.run_convert_string_bytes (P := prog) W1 9 57 5 s underlying9 underlying57 underlying5;have hl : s.data.toList.length = s.size := by rw [Array.length_toList]; rfl
 have hsrc := src_of_text s W1 hs;obtain ⟨W4, hW4⟩ : ∃ W4, Lib.bytesWorld W1 5 s = W4 := ⟨_, rfl⟩;have k4 : Kept W1 W4 := by rw [<- hW4]; exact Kept.of_below (Lib.bytesWorld_below _ _ _)
 rw [hW4] at hcv hsrc;have hT4 := (hT.kept k1).kept k4;have HPC := hid (parse_c (some ⟨W1.heap.size, 0, none⟩) _ s.data.toList W4 hsrc hT4.tb hT4.er hT4.so);rw [hl, hp] at HPC;have HB1 := hid (b1.kept k4);have HV := hid ((hv.kept k1).kept k4);have HW1 := hid hW1;have HK4 := hid (k1.trans k4);obtain ⟨av, cv, e, _⟩ := hv.kids;subst e;have hq := fun W => eqF 0 0 0 0 W;clear hsrc hW4 k4 hT hT4 hl hW1 k1 b1 hv hp;go_enter func8, ntmps8;go_wp2_with (rw [HW1.o]);refine HPC.o.mono ?_;rintro e w5 (⟨x5, k5s, v5, h1, rfl, hx, hk, hok, hcnt, hce, k5⟩ | ⟨_, _, h1, _⟩);rotate_left
 ·cases h1
 injection h1 with h1;subst h1;obtain ⟨a5, c5, rfl⟩ := hk.slice;have hl5 : k5s.length = x.kids.length := by rw [hx, List.length_map]
 have hkk : KidsAt w5 (.slice a5 x.kids.length c5) x.kids := by
  have := hk.kids.at;rw [<- hx, hl5] at this;exact this
 rw [hl5];obtain ⟨Z6, h6⟩ : ∃ Z, (w5.alloc (.cells pzN nT)).alloc (.cells #[.int .i64 0, .int .i64 0] 29) = Z := ⟨_, rfl⟩;obtain ⟨Z7, h7⟩ : ∃ Z, put6n Z6 w5.heap.size x (.slice a5 x.kids.length c5) = Z := ⟨_, rfl⟩;obtain ⟨W7, hW7⟩ : ∃ Z, (Z7.setCell ⟨w5.heap.size + 1, 0, none⟩ (.int .i64 0)).setCell ⟨w5.heap.size + 1, 1, none⟩ (.int .i64 0) = Z := ⟨_, rfl⟩;obtain ⟨t1, t2, b6, b7, k7⟩ := two_boxes w5 x (.slice a5 x.kids.length c5) 0 0 h6 h7 hW7;have HZ6 := hid h6;have HZ7 := hid (show (((((Z6.setCell ⟨w5.heap.size, 0, none⟩ (.int .i64 x.kind)).setCell ⟨w5.heap.size, 1, none⟩ (.string x.text)).setCell ⟨w5.heap.size, 2, none⟩ (.string x.typ)).setCell ⟨w5.heap.size, 3, none⟩ (.string x.frm)).setCell ⟨w5.heap.size, 4, none⟩ (.int .i64 x.n)).setCell ⟨w5.heap.size, 5, none⟩ (.slice a5 x.kids.length c5) = Z7 from h7);obtain ⟨⟨q0, q1, q2, q3, q4, q5⟩, f0, f1, f2, f3, f4, f5⟩ := nd_six t1;have p0 := t2.cell 0;have p1 := t2.cell 1;have r0 := t2.frozen 0;have r1 := t2.frozen 1;clear t1 t2 h6 h7;have b1 := (HB1.o.kept k5).kept k7;obtain ⟨⟨y0, y1, y2, y3, y4, y5⟩, _⟩ := nd_six b6;obtain ⟨⟨z0, z1, z2, z3, z4, z5⟩, _⟩ := nd_six b1;have i0 := b7.cell 0;have i1 := b7.cell 1;have HSN := hid (show Calls prog 25 #[ndV x (.slice a5 x.kids.length c5), ndV x (.slice av x.kids.length cv)] W7 (fun e w' => e = .returned (.bool true) /\ Kept W7 w') from by
  obtain ⟨a', c', e, hk'⟩ := ((HV.o.kept k5).kept k7).kids;injection e with e1 e2 e3;subst e1 e3;exact sameN_c x a5 c5 _ _ W7 (KidsD.kept hkk k7) hk')
 have HK7 := hid ((HK4.o.trans k5).trans k7);have HW7 := hid hW7;clear hx hk hok hcnt hce k5 hl5 hkk hW7 k7 b6 b7 b1 hcv HPC;go_wp2_with (first | rw [HZ6.o] | rw [HZ7.o] | rw [HW7.o]);refine HSN.o.mono ?_;rintro e w8 ⟨rfl, k8⟩;have HK8 := hid k8;clear k8;go_wp2_with fail;go_ret;exact ⟨rfl, HK7.o.trans HK8.o⟩
theorem PTab.q {w : World} (h : PTab w) (hp : Pw w) : QTab w := ⟨h.tb, hp, h.er⟩
theorem small_sum {x : Nd} (hc : x.count <= 300) (h : (checkE x).1 = 0) : (Lx.joinB (toks x)).length <= 900000 := by
 have h1 := Pr.W_join (toks x);have h2 := Pr.toks_w x (check_wf h).1;omega
theorem pback_c (x : Nd) (ad : Option Addr) (ck : Nat) (w : World) (hT : PTab w) (hP : Pw w) (hok : x.ok1) (hk : KidsAt w (.slice ad x.kids.length ck) x.kids) :
  Calls prog 3 #[ndV x (.slice ad x.kids.length ck)] w fun e w' => e = .returned (.bool true) /\ Kept w w' := by
 obtain ⟨W1, hW1⟩ : ∃ W, w.alloc (.cells (ndA x (.slice ad x.kids.length ck)) nT) = W := ⟨_, rfl⟩;have k1 := kpA hW1;have b1 : Blk W1 w.heap.size nT (ndA x (.slice ad x.kids.length ck)) := by rw [<- hW1]; exact Blk.new _ _ _
 have HTB := hid (hT.kept k1);have HPW := hid (hP.kept k1);have HBX := hid b1;have HKD := hid (KidsD.kept hk k1);have HOK := hid hok;have HKK := hid k1;have HW1 := hid hW1;clear hW1 k1 b1 hk hok hT hP;go_enter func3, ntmps3;go_wp2_with (rw [HW1.o]);refine (qknown_c _ (HTB.o.q HPW.o)).mono ?_;rintro e w2 ⟨rfl, k2⟩;replace HTB := hid (HTB.o.kept k2);replace HPW := hid (HPW.o.kept k2);replace HBX := hid (HBX.o.kept k2);replace HKD := hid (KidsD.kept HKD.o k2);replace HKK := hid (HKK.o.trans k2);clear k2 HW1;obtain ⟨⟨x0, x1, x2, x3, x4, x5⟩, _⟩ := nd_six HBX.o;go_wp2_with fail;clear x0 x1 x2 x3 x4 x5;refine (longN_c x ad ck _ HOK.o HKD.o).mono ?_;rintro e w3 ⟨rfl, k3⟩;replace HTB := hid (HTB.o.kept k3);replace HPW := hid (HPW.o.kept k3);replace HBX := hid (HBX.o.kept k3);replace HKD := hid (KidsD.kept HKD.o k3);replace HKK := hid (HKK.o.trans k3);clear k3;by_cases hl : longN x = true
 ·rw [hl];clear hl;go_wp2_with fail;go_ret;exact ⟨rfl, HKK.o⟩
 have hcnt : x.count <= 300 := by
  unfold longN at hl;rw [Bool.or_eq_true, decide_eq_true_eq] at hl;omega
 rw [Bool.not_eq_true] at hl;rw [hl];have HCN := hid hcnt;clear hl hcnt;obtain ⟨⟨x0, x1, x2, x3, x4, x5⟩, _⟩ := nd_six HBX.o;go_wp2_with fail;clear x0 x1 x2 x3 x4 x5;refine (pprint_c x ad ck _ HTB.o.tb HPW.o HTB.o.er HOK.o HKD.o (by have := HCN.o; omega) (small_sum HCN.o)).mono ?_;rintro e w4 ⟨rfl, k4⟩;replace HTB := hid (HTB.o.kept k4);replace HPW := hid (HPW.o.kept k4);replace HBX := hid (HBX.o.kept k4);replace HKD := hid (KidsD.kept HKD.o k4);replace HKK := hid (HKK.o.trans k4);clear k4;obtain ⟨s, pe, pa, hpv, hcase⟩ : ∃ s pe pa, printV x = .tuple #[.string s, .agg #[.int .i64 pe, .int .i64 pa]] /\
   (((checkE x).1 ≠ 0 /\ s = ⟨#[]⟩ /\ pe = (checkE x).1 /\ pa = (checkE x).2) ∨ ((checkE x).1 = 0 /\ s = ⟨#[]⟩ /\ pe = 4 /\ pa = 0) ∨ ((checkE x).1 = 0 /\ s = ⟨(Lx.joinB (toks x)).toArray⟩ /\ pe = 0 /\ pa = 0 /\ (Lx.joinB (toks x)).length <= 20000)) := by
  unfold printV;by_cases h : (checkE x).1 = 0
  ·rw [if_pos h];by_cases h2 : (Lx.joinB (toks x)).length <= 20000
   ·rw [if_pos h2]; exact ⟨_, _, _, rfl, .inr (.inr ⟨h, rfl, rfl, rfl, h2⟩)⟩
   ·rw [if_neg h2]; exact ⟨_, _, _, rfl, .inr (.inl ⟨h, rfl, rfl, rfl⟩)⟩
  ·rw [if_neg h]; exact ⟨_, _, _, rfl, .inl ⟨h, rfl, rfl, rfl⟩⟩
 rw [hpv];clear hpv;obtain ⟨Z5, hZ5⟩ : ∃ Z, w4.alloc (.cells #[.int .i64 0, .int .i64 0] 29) = Z := ⟨_, rfl⟩;obtain ⟨W5, hW5⟩ : ∃ Z, (Z5.setCell ⟨w4.heap.size, 0, none⟩ (.int .i64 pe)).setCell ⟨w4.heap.size, 1, none⟩ (.int .i64 pa) = Z := ⟨_, rfl⟩;obtain ⟨z5, b5, k5⟩ := one_box w4 pe pa hZ5 hW5;have HZ5 := hid hZ5;have HW5 := hid hW5;have p0 := z5.cell 0;have p1 := z5.cell 1;have r0 := z5.frozen 0;have r1 := z5.frozen 1;have HF5 := hid b5;replace HTB := hid (HTB.o.kept k5);replace HPW := hid (HPW.o.kept k5);replace HBX := hid (HBX.o.kept k5);replace HKD := hid (KidsD.kept HKD.o k5);replace HKK := hid (HKK.o.trans k5);clear z5 b5 k5 hZ5 hW5;obtain ⟨⟨x0, x1, x2, x3, x4, x5⟩, _⟩ := nd_six HBX.o;go_wp2_with (first | rw [HZ5.o] | rw [HW5.o]);clear x0 x1 x2 x3 x4 x5 p0 p1 r0 r1;refine (check_c x ad ck _ HTB.o.tb HOK.o HKD.o (by have := HCN.o; omega)).mono ?_;rintro e w6 ⟨rfl, k6⟩;replace HTB := hid (HTB.o.kept k6);replace HBX := hid (HBX.o.kept k6);replace HKD := hid (KidsD.kept HKD.o k6);replace HKK := hid (HKK.o.trans k6);replace HF5 := hid (HF5.o.kept k6);clear k6 HZ5 HW5 HPW;obtain ⟨ce, hce⟩ : ∃ ce, (checkE x).1 = ce := ⟨_, rfl⟩;obtain ⟨ca, hca⟩ : ∃ ca, (checkE x).2 = ca := ⟨_, rfl⟩;rw [hce, hca] at hcase ⊢;have HCE := hid hce;have hca0 : ce = 0 -> ca = 0 := fun h => by rw [<- hca, check_zero (by rw [hce, h])]
 clear hce hca;obtain ⟨Z7, hZ7⟩ : ∃ Z, w6.alloc (.cells #[.int .i64 0, .int .i64 0] 29) = Z := ⟨_, rfl⟩;obtain ⟨W7, hW7⟩ : ∃ Z, (Z7.setCell ⟨w6.heap.size, 0, none⟩ (.int .i64 ce)).setCell ⟨w6.heap.size, 1, none⟩ (.int .i64 ca) = Z := ⟨_, rfl⟩;obtain ⟨z7, b7, k7⟩ := one_box w6 ce ca hZ7 hW7;have HZ7 := hid hZ7;have HW7 := hid hW7;have p0 := z7.cell 0;have p1 := z7.cell 1;have r0 := z7.frozen 0;have r1 := z7.frozen 1;have g0 := b7.cell 0;have g1 := b7.cell 1;replace HTB := hid (HTB.o.kept k7);replace HBX := hid (HBX.o.kept k7);replace HKD := hid (KidsD.kept HKD.o k7);replace HKK := hid (HKK.o.trans k7);have bf := HF5.o.kept k7;have f0 := bf.cell 0;have f1 := bf.cell 1;clear z7 b7 k7 hZ7 hW7 bf HF5;rcases hcase with ⟨hne, rfl, rfl, rfl⟩ | ⟨h0, rfl, rfl, rfl⟩ | ⟨h0, rfl, rfl, rfl, hlen⟩
 ·have hb : (pe != 0) = true := by simp [hne]
  have hq : ∀ W, (binOp .eql 29 (fagg pe pa) (fagg pe pa)).run prog W = .ok (.bool true) W := fun W => by
   have := eqF pe pa pe pa W
   simpa using this
  clear hca0;go_wp2_with (first | rw [HZ7.o] | rw [HW7.o]);go_ret;exact ⟨rfl, HKK.o⟩
 ·obtain rfl := h0;obtain rfl := hca0 rfl;have hq : ∀ W, (binOp .eql 29 (fagg 4 0) (fagg 4 0)).run prog W = .ok (.bool true) W := fun W => by
   have := eqF 4 0 4 0 W
   simpa using this
  clear hca0;go_wp2_with (first | rw [HZ7.o] | rw [HW7.o]);go_ret;exact ⟨rfl, HKK.o⟩
 ·obtain rfl := h0;obtain rfl := hca0 rfl;clear hca0;obtain ⟨s, hs⟩ : ∃ s : ByteArray, ⟨(Lx.joinB (toks x)).toArray⟩ = s := ⟨_, rfl⟩;have hsd : s.data.toList = Lx.joinB (toks x) := by rw [<- hs]
  have hsz : s.size = (Lx.joinB (toks x)).length := by rw [<- hs]; simp [ByteArray.size]
  have hlI : (s.size : Int) <= 20000 := by omega
  have HPS := hid (parses_c s (by omega) x (.slice ad x.kids.length ck) W7 HTB.o ⟨HOK.o, _, _, rfl, HKD.o⟩ (by rw [hsd]; exact Pr.back_par HCE.o hlen));rw [hs];obtain ⟨⟨x0, x1, x2, x3, x4, x5⟩, _⟩ := nd_six HBX.o;clear hs hsd hsz hlen;go_wp2_with (first | rw [HZ7.o] | rw [HW7.o]);clear x0 x1 x2 x3 x4 x5 p0 p1 r0 r1 g0 g1 f0 f1;refine HPS.o.mono ?_;rintro e w8 ⟨rfl, k8⟩;have HK8 := hid (HKK.o.trans k8);clear k8;go_wp2_with fail;go_ret;exact ⟨rfl, HK8.o⟩
end Go.Proofs.YtegcgflhgfmkpaaGreatDoor
