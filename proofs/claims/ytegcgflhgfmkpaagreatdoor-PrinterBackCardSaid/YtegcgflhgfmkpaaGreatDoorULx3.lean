import Derived.Test.YtegcgflhgfmkpaaGreatDoorUTkm
import Derived.Test.YtegcgflhgfmkpaaGreatDoorUw14
import Derived.Test.YtegcgflhgfmkpaaGreatDoorUShelf
set_option linter.unusedSimpArgs false
set_option linter.unusedVariables false
set_option maxRecDepth 100000
set_option maxHeartbeats 16000000
namespace Go.Proofs.YtegcgflhgfmkpaaGreatDoor
open Lib (hid)
open _root_.Go.Proofs.Tryz
open Go.ChangeShapes Go.WideShapes Go.ChangeAt Go.RowKit Go.Shelf
attribute [local go_sem] Oper.semAt_some
namespace Lx
def valF (acc : Nat) (l : List UInt8) : Nat := l.foldl (fun a c => 10 * a + (c.toNat - 48)) acc
theorem valF_ge : ∀ (l : List UInt8) (acc : Nat), acc <= valF acc l
 | [], acc => Nat.le_refl _
 | c :: r, acc => by
  have := valF_ge r (10 * acc + (c.toNat - 48))
  show acc <= valF (10 * acc + (c.toNat - 48)) r
  omega
theorem dg_iff {c : UInt8} (h : dg c = true) : 48 <= c.toNat /\ c.toNat <= 57 := by
 unfold dg kd at h;by_cases h1 : c.toNat = 32 ∨ c.toNat = 9 ∨ c.toNat = 10 ∨ c.toNat = 13
 ·rw [if_pos h1] at h; cases h
 ·rw [if_neg h1] at h;by_cases h2 : (97 <= c.toNat /\ c.toNat <= 122) ∨ (65 <= c.toNat /\ c.toNat <= 90)
  ·rw [if_pos h2] at h; cases h
  ·rw [if_neg h2] at h;by_cases h3 : 48 <= c.toNat /\ c.toNat <= 57
   ·exact h3
   ·rw [if_neg h3] at h
    split at h <;> cases h
theorem parse_dg : ∀ (l : List UInt8) (acc : Nat), (∀ c ∈ l, dg c = true) -> acc < 18446744073709551616 ->
  Lib.parseUint10 acc l = if valF acc l < 18446744073709551616 then .ok (valF acc l) else .range
 | [], acc, _, ha => by
  rw [Lib.parseUint10, if_pos (show valF acc [] < _ from ha)]; rfl
 | c :: r, acc, hl, ha => by
  have hc := dg_iff (hl c (by simp));have hge := valF_ge r (10 * acc + (c.toNat - 48));have hv : valF acc (c :: r) = valF (10 * acc + (c.toNat - 48)) r := rfl;rw [Lib.parseUint10, if_pos hc, hv];by_cases h1 : 1844674407370955162 <= acc
  ·rw [if_pos h1, if_neg (by omega)]
  ·rw [if_neg h1];by_cases h2 : 18446744073709551616 <= acc * 10 + (c.toNat - 48)
   ·rw [if_pos h2, if_neg (by omega)]
   ·rw [if_neg h2, show acc * 10 + (c.toNat - 48) = 10 * acc + (c.toNat - 48) by omega];exact parse_dg r _ (fun d hd => hl d (by simp [hd])) (by omega)
theorem atoi_dg {l : List UInt8} (hl : ∀ c ∈ l, dg c = true) (h0 : l ≠ []) : Lib.atoiAll l = if val l <= 9223372036854775807 then .ok (val l : Int) else .range := by
 obtain ⟨c, r, rfl⟩ : ∃ c r, l = c :: r := by cases l with
  | nil => exact absurd rfl h0
  | cons c r => exact ⟨c, r, rfl⟩
 have hc := dg_iff (hl c (by simp));have hp := parse_dg (c :: r) 0 hl (by decide);have hv : valF 0 (c :: r) = val (c :: r) := rfl;rw [hv] at hp;unfold Lib.atoiAll;simp only [];rw [if_neg (show ¬ (c.toNat = 43 ∨ c.toNat = 45) by omega)];unfold Lib.parseMag;rw [if_neg (by simp), hp];by_cases h1 : val (c :: r) < 18446744073709551616
 ·rw [if_pos h1];simp only [];have hn : ¬ c.toNat = 45 := by omega
  by_cases h2 : val (c :: r) <= 9223372036854775807
  ·rw [if_pos h2, if_neg (by omega), if_neg (by omega), if_neg hn]
  ·rw [if_neg h2, if_pos (by omega)]
 ·rw [if_neg h1, if_neg (by omega)]
theorem run_all (f : UInt8 -> Bool) : ∀ (l : List UInt8), ∀ c ∈ l.take (run f l), f c = true
 | [], c, h => by simp at h
 | d :: r, c, h => by
  rw [run] at h;by_cases hd : f d = true
  ·rw [if_pos hd] at h;simp only [List.take_succ_cons, List.mem_cons] at h;rcases h with rfl | h
   ·exact hd
   ·exact run_all f r c h
  ·rw [if_neg hd] at h; simp at h
end Lx
def Er (w : World) : Prop := ∃ ev, w.cell? ⟨11, 0, none⟩ = some ev /\ (ev = .nilIface ∨ ∃ te pe, ev = .iface te pe)
theorem Er.kept {w w' : World} (h : Er w) (k : Kept w w') : Er w' := by
 obtain ⟨ev, h1, h2⟩ := h;exact ⟨ev, k.cell h1, h2⟩
theorem atoi_c (y : ByteArray) (w : World) (hE : Er w) (hy : ∀ c ∈ y.data.toList, Lx.dg c = true) (h0 : y.data.toList ≠ []) (hs : y.size <= 281474976710656) :
  Calls prog 173 #[.string y] w fun e w' => (if Lx.val y.data.toList <= 9223372036854775807 then e = .returned (.tuple #[.int .i64 (Lx.val y.data.toList), .nilIface]) else ∃ m t q, e = .returned (.tuple #[.int .i64 m, .iface t q])) /\ Kept w w' := by
 have ha := Lx.atoi_dg hy h0;by_cases h : Lx.val y.data.toList <= 9223372036854775807
 ·rw [if_pos h] at ha;refine (Tryz.strconv_Atoi_ok y (by omega) _ ha w).mono ?_;rintro e w' ⟨he, hw⟩;rw [if_pos h];refine ⟨he, ?_⟩;rcases hw with rfl | ⟨t, rfl⟩
  ·exact Kept.refl _
  ·exact Kept.of_below (Lib.bytesWorld_below _ _ _)
 ·rw [if_neg h] at ha;obtain ⟨ev, h1, h2⟩ := hE;refine (Tryz.strconv_Atoi_range y hs ha ev w h1 h2).mono ?_;rintro e w' ⟨N, he, _, _, hb⟩;rw [if_neg h];exact ⟨⟨_, _, _, he⟩, Kept.of_below hb⟩
theorem has_r (s : List UInt8) : Lx.has s ⟨#[114]⟩ = decide ((s.headD 0).toNat = 114) := by
 unfold Lx.has
 cases s with
 | nil => rfl
 | cons c r =>
  show (114 == c && List.isPrefixOf [] r) = _
  rw [Bool.eq_iff_iff];simp;exact ⟨fun h => by subst h; rfl, fun h => UInt8.toNat_inj.1 (by rw [h]; rfl)⟩
theorem run_z (i : Int) (an : Bool) (a : Option Addr) (c : Nat) (l : List UInt8) (p : Nat) (w : World) (h : SrcAt w (.slice a l.length c) l) (hp : p <= l.length) (hi : i = (p : Int)) :
  Calls prog 171 #[.slice a l.length c, .int .i64 i, .bool an] w fun r w' => r = .returned (.int .i64 ((p + Lx.run (if an then Lx.an else Lx.dg) (l.drop p) : Nat) : Int)) /\ Kept w w' := by
 subst hi; exact run_c an a c l p w h hp
theorem has_z (i : Int) (x : ByteArray) (a : Option Addr) (c : Nat) (l : List UInt8) (p : Nat) (w : World) (h : SrcAt w (.slice a l.length c) l) (hp : p <= l.length) (hx : 0 < x.size) (hi : i = (p : Int)) :
  Calls prog 157 #[.slice a l.length c, .int .i64 i, .string x] w fun r w' => r = .returned (.bool (Lx.has (l.drop p) x)) /\ w' = w := by
 subst hi; exact has_c x a c l p w h hp hx
theorem refuse_z (i : Int) (e : Int) (q : Nat) (w : World) (hi : i = (q : Int)) : Calls prog 172 #[.int .i64 e, .int .i64 i] w fun r w' => r = .returned (badV e (q : Int)) /\ Kept w w' := by
 subst hi; exact refuse_c e q w
theorem number_c (a : Option Addr) (c : Nat) (l : List UInt8) (p : Nat) (w : World) (h : SrcAt w (.slice a l.length c) l) (hEr : Er w) (hp : p < l.length) (h2 : Lx.kd l[p] = 3) (hl : l.length <= 20000) :
  Calls prog 160 #[.slice a l.length c, .int .i64 p] w fun r w' => r = .returned (wayV p (Lx.number (l.drop p))) /\ Kept w w' := by
 have hcap := h.cap;unfold maxLen at hcap;obtain ⟨k, hk⟩ : ∃ k, Lx.run Lx.dg (l.drop p) = k := ⟨_, rfl⟩;have hk0 : 0 < k := by rw [<- hk, drop_at hp]; exact Lx.run_pos (by unfold Lx.dg; simp [h2])
 have hkl : p + k <= l.length := by have := Lx.run_le Lx.dg (l.drop p); rw [hk, List.length_drop] at this; omega
 have hall := Lx.run_all Lx.dg (l.drop p);rw [hk] at hall;obtain ⟨y, hy⟩ : ∃ y : ByteArray, ⟨((l.drop p).take k).toArray⟩ = y := ⟨_, rfl⟩;have hyl : y.data.toList = (l.drop p).take k := by rw [<- hy]
 have hys : y.size = k := by rw [<- hy]; exact Lx.take_size _ _ (by rw [List.length_drop]; omega)
 have hy0 : y.data.toList ≠ [] := by
  intro e;have : y.data.toList.length = y.size := by rw [Array.length_toList]; rfl
  rw [e, hys] at this;simp at this; omega
 rw [<- hyl] at hall;obtain ⟨v, hv⟩ : ∃ v, Lx.val y.data.toList = v := ⟨_, rfl⟩;have hHR := has_r (l.drop (p + k));obtain ⟨isR, hisR⟩ : ∃ b, decide (((l.drop (p + k)).headD 0).toNat = 114) = b := ⟨_, rfl⟩;rw [hisR] at hHR;obtain ⟨b, o, rfl, hcv⟩ := cut_is h hk0 hkl;rw [hy] at hcv;have hch : ((l.drop p).headD 0) = l[p] := by rw [drop_at hp]; rfl
 have HV : Hid (Lx.number (l.drop p) = Lx.numR (l.drop p) k isR) := hid (by unfold Lx.number; rw [hk, List.drop_drop, hisR]);have HWR : Hid (Lx.wrong (l.drop p) k = (decide (9223372036854775807 < v) || (decide (l[p].toNat = 48) && decide (1 < k)))) := hid (by unfold Lx.wrong; rw [hch, <- hyl, hv]);have HVAL := hid (show Lx.val ((l.drop p).take k) = v by rw [<- hyl, hv]);obtain ⟨b', o', e', y0⟩ := h.at hp;injection e' with e';injection e' with e1 e2;subst e1 e2;have hRl : isR = true -> p + k < l.length := by
  intro h;rw [h] at hisR;rcases Nat.lt_or_ge (p + k) l.length with h | h
  ·exact h
  ·rw [List.drop_of_length_le h] at hisR; simp at hisR
 have HDR := hid (show ∀ j, (l.drop p).drop j = l.drop (p + j) from fun j => List.drop_drop ..);have HS := hid h;obtain ⟨W1, hW1⟩ : ∃ W1, (w.alloc (.cells #[.int .i64 0, .string ⟨#[]⟩, .int .i64 0, .int .i64 0] 70)).alloc (.cells #[.int .i64 0, .int .i64 0] 29) = W1 := ⟨_, rfl⟩;have k1 : Kept w W1 := by rw [<- hW1]; exact ((Kept.refl w).alloc _).alloc _
 have HR1 := hid (show Res2 w.heap.size W1 by rw [<- hW1]; exact Res2.new w);have HRUN := hid (run_c false (some ⟨b, o, none⟩) c l p W1 (src_kept h k1) (by omega));rw [if_neg (by decide), hk] at HRUN;have HW := hid hW1;have HK1 := hid k1;have HCV := hid hcv;have HE0 := hid hEr;have HY := hid (And.intro hall hy0);rw [HV.o];clear h hEr h2 hcv hk hy hW1 k1 hall hy0 hisR hyl hch;generalize l[p] = ch at *;have hn := ch.toNat_lt;generalize ch.toNat = n at *;have HHR := hid hHR;have HVV := hid hv;clear hHR hv;go_enter func160, ntmps160;go_wp2_with (rw [HW.o]);refine HRUN.o.mono ?_;rintro e W2 ⟨rfl, k2⟩;have HK2 := hid (HK1.o.trans k2);have HR2 := hid (HR1.o.kept k2);clear k2 HR1 HRUN HK1 HW;have e1 : (((p + k : Nat) : Int) - (p : Int)) = (k : Int) := by omega
 have hsl := fun W => sliced_is (a := some ⟨b, o, none⟩) rfl hk0 (show p + k <= c by omega) W (p : Int) ((p + k : Nat) : Int) rfl rfl l.length;have hcw := HCV.o W2 HK2.o;have HAT := hid (atoi_c y W2 (HE0.o.kept HK2.o) HY.o.1 HY.o.2 (by omega));rw [HVV.o] at HAT;go_wp2_with fail;refine HAT.o.mono ?_;rintro e W3 ⟨he, k3⟩;have HK3 := hid (HK2.o.trans k3);have HR3 := hid (HR2.o.kept k3);clear k3 HK2 HR2 HAT hcw HE0 HCV HY;have y3 := HK3.o.cell y0;have hsz := HR3.o.2.lt;clear y0;by_cases hbig : v <= 9223372036854775807
 ·rw [if_pos hbig] at he;subst he;have hbigI : (v : Int) <= 9223372036854775807 := by omega
  by_cases hz : n = 48 /\ 1 < k
  ·have HKN := hid (show Lx.wrong (l.drop p) k = true by rw [HWR.o]; simp [hz.1, hz.2]);obtain ⟨rfl, hk1⟩ := hz;have hk1I : (1 : Int) < (k : Int) := by omega
   obtain ⟨W4, hW4⟩ : ∃ W4, W3.alloc (.cells #[.int .i64 4, .string ⟨#[]⟩, .int .i64 v, .int .i64 p] 70) = W4 := ⟨_, rfl⟩;have k34 := kpA hW4;have HB4 := hid (bkA hW4);have HK4 := hid (HK3.o.trans k34);have HR4 := hid (HR3.o.kept k34);have HW4 := hid hW4;have HHAS := hid (fun i (hi : i = ((p + k : Nat) : Int)) => has_z i ⟨#[114]⟩ (some ⟨b, o, none⟩) c l (p + k) W4 (src_kept HS.o HK4.o) (by omega) (by decide) hi);rw [HHR.o] at HHAS;clear hW4 k34 HK3 HR3;have g0 := HB4.o.frozen 0;have d0 := HB4.o.cell 0;have d1 := HB4.o.cell 1;have d2 := HB4.o.cell 2;have d3 := HB4.o.cell 3;simp at d0 d1 d2 d3;go_wp2_with (rw [HW4.o]);refine (HHAS.o _ (by omega)).mono ?_;rintro e W4' ⟨rfl, rfl⟩;clear HHAS HW4
   cases isR with
   | true =>
    have HB5 := hid (HB4.o.put 0 (.int .i64 5));have HR5 := hid (HR4.o.set hsz 0 (.int .i64 5));have HK5 := hid (HK4.o.setCell (p := ⟨W3.heap.size, 0, none⟩) (by show w.heap.size <= W3.heap.size; omega) (.int .i64 5));have hpk := hRl rfl;have HE := hid (show Lx.numR (l.drop p) k true = .bad 3 0 by unfold Lx.numR; rw [if_pos rfl, if_pos (by rw [HKN.o]; rfl)]);clear HB4 HR4 HK4;go_wp2_with fail;refine (refuse_z _ 3 (p) _ (by omega)).mono ?_;rintro e W9 ⟨rfl, k9⟩;have hr9 := HR5.o.kept k9;obtain ⟨⟨f0, f1, f2, f3⟩, f4, f5⟩ := hr9.froz;obtain ⟨⟨c0, c1, c2, c3⟩, c4, c5⟩ := hr9.cel;have HR9 := hid hr9;have HK9 := hid (HK5.o.trans k9);clear hr9 k9;go_wp2_with fail;exact way_end (by rfl) HR9.o HK9.o rfl rfl (by rw [HE.o]; rfl)
   | false =>
    have HE := hid (show Lx.numR (l.drop p) k false = .bad 3 0 by unfold Lx.numR; rw [if_neg (by decide), if_pos (by rw [HKN.o])]);go_wp2_with fail;refine (refuse_z _ 3 (p) _ (by omega)).mono ?_;rintro e W9 ⟨rfl, k9⟩;have hr9 := HR4.o.kept k9;obtain ⟨⟨f0, f1, f2, f3⟩, f4, f5⟩ := hr9.froz;obtain ⟨⟨c0, c1, c2, c3⟩, c4, c5⟩ := hr9.cel;have HR9 := hid hr9;have HK9 := hid (HK4.o.trans k9);clear hr9 k9;go_wp2_with fail;exact way_end (by rfl) HR9.o HK9.o rfl rfl (by rw [HE.o]; rfl)
  ·have HKN := hid (show Lx.wrong (l.drop p) k = false by rw [HWR.o, decide_eq_false (by omega), Bool.false_or, Bool.and_eq_false_iff]; simp only [decide_eq_false_iff_not]; omega);have hnk : (n = 48 /\ ((n : Int) == 48) = true /\ ¬ (1 : Int) < (k : Int)) ∨ (((n : Int) == 48) = false) := by
    by_cases h : n = 48
    ·exact .inl ⟨h, by simp; omega, by omega⟩
    ·exact .inr (by simp; omega)
   rcases hnk with ⟨rfl, _, hk1I⟩ | hn48
   ·obtain ⟨W4, hW4⟩ : ∃ W4, W3.alloc (.cells #[.int .i64 4, .string ⟨#[]⟩, .int .i64 v, .int .i64 p] 70) = W4 := ⟨_, rfl⟩;have k34 := kpA hW4;have HB4 := hid (bkA hW4);have HK4 := hid (HK3.o.trans k34);have HR4 := hid (HR3.o.kept k34);have HW4 := hid hW4;have HHAS := hid (fun i (hi : i = ((p + k : Nat) : Int)) => has_z i ⟨#[114]⟩ (some ⟨b, o, none⟩) c l (p + k) W4 (src_kept HS.o HK4.o) (by omega) (by decide) hi);rw [HHR.o] at HHAS;clear hW4 k34 HK3 HR3;have g0 := HB4.o.frozen 0;have d0 := HB4.o.cell 0;have d1 := HB4.o.cell 1;have d2 := HB4.o.cell 2;have d3 := HB4.o.cell 3;simp at d0 d1 d2 d3;go_wp2_with (rw [HW4.o]);refine (HHAS.o _ (by omega)).mono ?_;rintro e W4' ⟨rfl, rfl⟩;clear HHAS HW4
    cases isR with
    | true =>
     have HB5 := hid (HB4.o.put 0 (.int .i64 5));have HR5 := hid (HR4.o.set hsz 0 (.int .i64 5));have HK5 := hid (HK4.o.setCell (p := ⟨W3.heap.size, 0, none⟩) (by show w.heap.size <= W3.heap.size; omega) (.int .i64 5));have hpk := hRl rfl;by_cases h53 : 9007199254740992 < v
     ·have h53I : (9007199254740992 : Int) < (v : Int) := by omega
      have HE := hid (show Lx.numR (l.drop p) k true = .bad 3 0 by unfold Lx.numR; rw [if_pos rfl, if_pos (by rw [HVAL.o, HKN.o]; simpa using h53)]);clear HB4 HR4 HK4;go_wp2_with fail;refine (refuse_z _ 3 (p) _ (by omega)).mono ?_;rintro e W9 ⟨rfl, k9⟩;have hr9 := HR5.o.kept k9;obtain ⟨⟨f0, f1, f2, f3⟩, f4, f5⟩ := hr9.froz;obtain ⟨⟨c0, c1, c2, c3⟩, c4, c5⟩ := hr9.cel;have HR9 := hid hr9;have HK9 := hid (HK5.o.trans k9);clear hr9 k9;go_wp2_with fail;exact way_end (by rfl) HR9.o HK9.o rfl rfl (by rw [HE.o]; rfl)
     ·have h53I : ¬ (9007199254740992 : Int) < (v : Int) := by omega
      obtain ⟨j, hj⟩ : ∃ j, Lx.run Lx.an (l.drop (p + (k + 1))) = j := ⟨_, rfl⟩;have HRA := hid (fun W (hW : Kept w W) i (hi : i = ((p + (k + 1) : Nat) : Int)) => run_z i true (some ⟨b, o, none⟩) c l (p + (k + 1)) W (src_kept HS.o hW) (by omega) hi);rw [if_pos rfl, hj] at HRA;have HE1 := hid (show Lx.numR (l.drop p) k true = if 0 < j then .bad 5 (k + 1) else .tok 5 ⟨#[]⟩ v (k + 1) by unfold Lx.numR; rw [if_pos rfl, if_neg (by rw [HVAL.o, HKN.o]; simpa using h53), HDR.o, hj, HVAL.o]);clear hj HB4 HR4 HK4;go_wp2_with fail;refine (HRA.o _ HK5.o _ (by omega)).mono ?_;rintro e W6 ⟨rfl, k6⟩;have HB6 := hid (HB5.o.kept k6);have HR6 := hid (HR5.o.kept k6);have HK6 := hid (HK5.o.trans k6);clear k6 HRA g0 d0 d1 d2 d3;have g0 := HB6.o.frozen 0;have d0 := HB6.o.cell 0;have d1 := HB6.o.cell 1;have d2 := HB6.o.cell 2;have d3 := HB6.o.cell 3;simp at d0 d1 d2 d3;by_cases hj0 : 0 < j
      ·have hjI : (((p + (k + 1)) : Nat) : Int) < (((p + (k + 1)) + j : Nat) : Int) := by omega
       have HE := hid (HE1.o.trans (if_pos hj0));clear HE1;go_wp2_with fail;refine (refuse_z _ 5 ((p + (k + 1))) _ (by omega)).mono ?_;rintro e W9 ⟨rfl, k9⟩;have hr9 := HR6.o.kept k9;obtain ⟨⟨f0, f1, f2, f3⟩, f4, f5⟩ := hr9.froz;obtain ⟨⟨c0, c1, c2, c3⟩, c4, c5⟩ := hr9.cel;have HR9 := hid hr9;have HK9 := hid (HK6.o.trans k9);clear hr9 k9;go_wp2_with fail;exact way_end (by rfl) HR9.o HK9.o rfl rfl (by rw [HE.o]; rfl)
      ·obtain rfl : j = 0 := by omega
       have HE := hid (HE1.o.trans (if_neg hj0));obtain ⟨⟨f0, f1, f2, f3⟩, f4, f5⟩ := HR6.o.froz;obtain ⟨⟨c0, c1, c2, c3⟩, c4, c5⟩ := HR6.o.cel;clear HE1;go_wp2_with fail;exact way_end (by rfl) HR6.o HK6.o rfl rfl (by rw [HE.o]; rfl)
    | false =>
     obtain ⟨j, hj⟩ : ∃ j, Lx.run Lx.an (l.drop (p + k)) = j := ⟨_, rfl⟩;have HRA := hid (fun W (hW : Kept w W) i (hi : i = ((p + k : Nat) : Int)) => run_z i true (some ⟨b, o, none⟩) c l (p + k) W (src_kept HS.o hW) (by omega) hi);rw [if_pos rfl, hj] at HRA;have HE1 := hid (show Lx.numR (l.drop p) k false = if 0 < j then .bad 5 k else .tok 4 ⟨#[]⟩ v k by unfold Lx.numR; rw [if_neg (by decide), if_neg (by rw [HKN.o]; decide), HDR.o, hj, HVAL.o]);clear hj;go_wp2_with fail;refine (HRA.o _ HK4.o _ (by omega)).mono ?_;rintro e W6 ⟨rfl, k6⟩;have HB6 := hid (HB4.o.kept k6);have HR6 := hid (HR4.o.kept k6);have HK6 := hid (HK4.o.trans k6);clear k6 HRA g0 d0 d1 d2 d3;have g0 := HB6.o.frozen 0;have d0 := HB6.o.cell 0;have d1 := HB6.o.cell 1;have d2 := HB6.o.cell 2;have d3 := HB6.o.cell 3;simp at d0 d1 d2 d3;by_cases hj0 : 0 < j
     ·have hjI : (((p + k) : Nat) : Int) < (((p + k) + j : Nat) : Int) := by omega
      have HE := hid (HE1.o.trans (if_pos hj0));clear HE1;go_wp2_with fail;refine (refuse_z _ 5 ((p + k)) _ (by omega)).mono ?_;rintro e W9 ⟨rfl, k9⟩;have hr9 := HR6.o.kept k9;obtain ⟨⟨f0, f1, f2, f3⟩, f4, f5⟩ := hr9.froz;obtain ⟨⟨c0, c1, c2, c3⟩, c4, c5⟩ := hr9.cel;have HR9 := hid hr9;have HK9 := hid (HK6.o.trans k9);clear hr9 k9;go_wp2_with fail;exact way_end (by rfl) HR9.o HK9.o rfl rfl (by rw [HE.o]; rfl)
     ·obtain rfl : j = 0 := by omega
      have HE := hid (HE1.o.trans (if_neg hj0));obtain ⟨⟨f0, f1, f2, f3⟩, f4, f5⟩ := HR6.o.froz;obtain ⟨⟨c0, c1, c2, c3⟩, c4, c5⟩ := HR6.o.cel;clear HE1;go_wp2_with fail;exact way_end (by rfl) HR6.o HK6.o rfl rfl (by rw [HE.o]; rfl)
   ·obtain ⟨W4, hW4⟩ : ∃ W4, W3.alloc (.cells #[.int .i64 4, .string ⟨#[]⟩, .int .i64 v, .int .i64 p] 70) = W4 := ⟨_, rfl⟩;have k34 := kpA hW4;have HB4 := hid (bkA hW4);have HK4 := hid (HK3.o.trans k34);have HR4 := hid (HR3.o.kept k34);have HW4 := hid hW4;have HHAS := hid (fun i (hi : i = ((p + k : Nat) : Int)) => has_z i ⟨#[114]⟩ (some ⟨b, o, none⟩) c l (p + k) W4 (src_kept HS.o HK4.o) (by omega) (by decide) hi);rw [HHR.o] at HHAS;clear hW4 k34 HK3 HR3;have g0 := HB4.o.frozen 0;have d0 := HB4.o.cell 0;have d1 := HB4.o.cell 1;have d2 := HB4.o.cell 2;have d3 := HB4.o.cell 3;simp at d0 d1 d2 d3;go_wp2_with (rw [HW4.o]);refine (HHAS.o _ (by omega)).mono ?_;rintro e W4' ⟨rfl, rfl⟩;clear HHAS HW4
    cases isR with
    | true =>
     have HB5 := hid (HB4.o.put 0 (.int .i64 5));have HR5 := hid (HR4.o.set hsz 0 (.int .i64 5));have HK5 := hid (HK4.o.setCell (p := ⟨W3.heap.size, 0, none⟩) (by show w.heap.size <= W3.heap.size; omega) (.int .i64 5));have hpk := hRl rfl;by_cases h53 : 9007199254740992 < v
     ·have h53I : (9007199254740992 : Int) < (v : Int) := by omega
      have HE := hid (show Lx.numR (l.drop p) k true = .bad 3 0 by unfold Lx.numR; rw [if_pos rfl, if_pos (by rw [HVAL.o, HKN.o]; simpa using h53)]);clear HB4 HR4 HK4;go_wp2_with fail;refine (refuse_z _ 3 (p) _ (by omega)).mono ?_;rintro e W9 ⟨rfl, k9⟩;have hr9 := HR5.o.kept k9;obtain ⟨⟨f0, f1, f2, f3⟩, f4, f5⟩ := hr9.froz;obtain ⟨⟨c0, c1, c2, c3⟩, c4, c5⟩ := hr9.cel;have HR9 := hid hr9;have HK9 := hid (HK5.o.trans k9);clear hr9 k9;go_wp2_with fail;exact way_end (by rfl) HR9.o HK9.o rfl rfl (by rw [HE.o]; rfl)
     ·have h53I : ¬ (9007199254740992 : Int) < (v : Int) := by omega
      obtain ⟨j, hj⟩ : ∃ j, Lx.run Lx.an (l.drop (p + (k + 1))) = j := ⟨_, rfl⟩;have HRA := hid (fun W (hW : Kept w W) i (hi : i = ((p + (k + 1) : Nat) : Int)) => run_z i true (some ⟨b, o, none⟩) c l (p + (k + 1)) W (src_kept HS.o hW) (by omega) hi);rw [if_pos rfl, hj] at HRA;have HE1 := hid (show Lx.numR (l.drop p) k true = if 0 < j then .bad 5 (k + 1) else .tok 5 ⟨#[]⟩ v (k + 1) by unfold Lx.numR; rw [if_pos rfl, if_neg (by rw [HVAL.o, HKN.o]; simpa using h53), HDR.o, hj, HVAL.o]);clear hj HB4 HR4 HK4;go_wp2_with fail;refine (HRA.o _ HK5.o _ (by omega)).mono ?_;rintro e W6 ⟨rfl, k6⟩;have HB6 := hid (HB5.o.kept k6);have HR6 := hid (HR5.o.kept k6);have HK6 := hid (HK5.o.trans k6);clear k6 HRA g0 d0 d1 d2 d3;have g0 := HB6.o.frozen 0;have d0 := HB6.o.cell 0;have d1 := HB6.o.cell 1;have d2 := HB6.o.cell 2;have d3 := HB6.o.cell 3;simp at d0 d1 d2 d3;by_cases hj0 : 0 < j
      ·have hjI : (((p + (k + 1)) : Nat) : Int) < (((p + (k + 1)) + j : Nat) : Int) := by omega
       have HE := hid (HE1.o.trans (if_pos hj0));clear HE1;go_wp2_with fail;refine (refuse_z _ 5 ((p + (k + 1))) _ (by omega)).mono ?_;rintro e W9 ⟨rfl, k9⟩;have hr9 := HR6.o.kept k9;obtain ⟨⟨f0, f1, f2, f3⟩, f4, f5⟩ := hr9.froz;obtain ⟨⟨c0, c1, c2, c3⟩, c4, c5⟩ := hr9.cel;have HR9 := hid hr9;have HK9 := hid (HK6.o.trans k9);clear hr9 k9;go_wp2_with fail;exact way_end (by rfl) HR9.o HK9.o rfl rfl (by rw [HE.o]; rfl)
      ·obtain rfl : j = 0 := by omega
       have HE := hid (HE1.o.trans (if_neg hj0));obtain ⟨⟨f0, f1, f2, f3⟩, f4, f5⟩ := HR6.o.froz;obtain ⟨⟨c0, c1, c2, c3⟩, c4, c5⟩ := HR6.o.cel;clear HE1;go_wp2_with fail;exact way_end (by rfl) HR6.o HK6.o rfl rfl (by rw [HE.o]; rfl)
    | false =>
     obtain ⟨j, hj⟩ : ∃ j, Lx.run Lx.an (l.drop (p + k)) = j := ⟨_, rfl⟩;have HRA := hid (fun W (hW : Kept w W) i (hi : i = ((p + k : Nat) : Int)) => run_z i true (some ⟨b, o, none⟩) c l (p + k) W (src_kept HS.o hW) (by omega) hi);rw [if_pos rfl, hj] at HRA;have HE1 := hid (show Lx.numR (l.drop p) k false = if 0 < j then .bad 5 k else .tok 4 ⟨#[]⟩ v k by unfold Lx.numR; rw [if_neg (by decide), if_neg (by rw [HKN.o]; decide), HDR.o, hj, HVAL.o]);clear hj;go_wp2_with fail;refine (HRA.o _ HK4.o _ (by omega)).mono ?_;rintro e W6 ⟨rfl, k6⟩;have HB6 := hid (HB4.o.kept k6);have HR6 := hid (HR4.o.kept k6);have HK6 := hid (HK4.o.trans k6);clear k6 HRA g0 d0 d1 d2 d3;have g0 := HB6.o.frozen 0;have d0 := HB6.o.cell 0;have d1 := HB6.o.cell 1;have d2 := HB6.o.cell 2;have d3 := HB6.o.cell 3;simp at d0 d1 d2 d3;by_cases hj0 : 0 < j
     ·have hjI : (((p + k) : Nat) : Int) < (((p + k) + j : Nat) : Int) := by omega
      have HE := hid (HE1.o.trans (if_pos hj0));clear HE1;go_wp2_with fail;refine (refuse_z _ 5 ((p + k)) _ (by omega)).mono ?_;rintro e W9 ⟨rfl, k9⟩;have hr9 := HR6.o.kept k9;obtain ⟨⟨f0, f1, f2, f3⟩, f4, f5⟩ := hr9.froz;obtain ⟨⟨c0, c1, c2, c3⟩, c4, c5⟩ := hr9.cel;have HR9 := hid hr9;have HK9 := hid (HK6.o.trans k9);clear hr9 k9;go_wp2_with fail;exact way_end (by rfl) HR9.o HK9.o rfl rfl (by rw [HE.o]; rfl)
     ·obtain rfl : j = 0 := by omega
      have HE := hid (HE1.o.trans (if_neg hj0));obtain ⟨⟨f0, f1, f2, f3⟩, f4, f5⟩ := HR6.o.froz;obtain ⟨⟨c0, c1, c2, c3⟩, c4, c5⟩ := HR6.o.cel;clear HE1;go_wp2_with fail;exact way_end (by rfl) HR6.o HK6.o rfl rfl (by rw [HE.o]; rfl)
 ·rw [if_neg hbig] at he;obtain ⟨mm, tt, qq, rfl⟩ := he;have HKN := hid (show Lx.wrong (l.drop p) k = true by rw [HWR.o, decide_eq_true (by omega)]; rfl);obtain ⟨W4, hW4⟩ : ∃ W4, W3.alloc (.cells #[.int .i64 4, .string ⟨#[]⟩, .int .i64 mm, .int .i64 p] 70) = W4 := ⟨_, rfl⟩;have k34 := kpA hW4;have HB4 := hid (bkA hW4);have HK4 := hid (HK3.o.trans k34);have HR4 := hid (HR3.o.kept k34);have HW4 := hid hW4;have HHAS := hid (fun i (hi : i = ((p + k : Nat) : Int)) => has_z i ⟨#[114]⟩ (some ⟨b, o, none⟩) c l (p + k) W4 (src_kept HS.o HK4.o) (by omega) (by decide) hi);rw [HHR.o] at HHAS;clear hW4 k34 HK3 HR3;have g0 := HB4.o.frozen 0;have d0 := HB4.o.cell 0;have d1 := HB4.o.cell 1;have d2 := HB4.o.cell 2;have d3 := HB4.o.cell 3;simp at d0 d1 d2 d3;go_wp2_with (rw [HW4.o]);refine (HHAS.o _ (by omega)).mono ?_;rintro e W4' ⟨rfl, rfl⟩;clear HHAS HW4
  cases isR with
  | true =>
   have HB5 := hid (HB4.o.put 0 (.int .i64 5));have HR5 := hid (HR4.o.set hsz 0 (.int .i64 5));have HK5 := hid (HK4.o.setCell (p := ⟨W3.heap.size, 0, none⟩) (by show w.heap.size <= W3.heap.size; omega) (.int .i64 5));have hpk := hRl rfl;have HE := hid (show Lx.numR (l.drop p) k true = .bad 3 0 by unfold Lx.numR; rw [if_pos rfl, if_pos (by rw [HKN.o]; rfl)]);clear HB4 HR4 HK4;go_wp2_with fail;refine (refuse_z _ 3 (p) _ (by omega)).mono ?_;rintro e W9 ⟨rfl, k9⟩;have hr9 := HR5.o.kept k9;obtain ⟨⟨f0, f1, f2, f3⟩, f4, f5⟩ := hr9.froz;obtain ⟨⟨c0, c1, c2, c3⟩, c4, c5⟩ := hr9.cel;have HR9 := hid hr9;have HK9 := hid (HK5.o.trans k9);clear hr9 k9;go_wp2_with fail;exact way_end (by rfl) HR9.o HK9.o rfl rfl (by rw [HE.o]; rfl)
  | false =>
   have HE := hid (show Lx.numR (l.drop p) k false = .bad 3 0 by unfold Lx.numR; rw [if_neg (by decide), if_pos (by rw [HKN.o])]);go_wp2_with fail;refine (refuse_z _ 3 (p) _ (by omega)).mono ?_;rintro e W9 ⟨rfl, k9⟩;have hr9 := HR4.o.kept k9;obtain ⟨⟨f0, f1, f2, f3⟩, f4, f5⟩ := hr9.froz;obtain ⟨⟨c0, c1, c2, c3⟩, c4, c5⟩ := hr9.cel;have HR9 := hid hr9;have HK9 := hid (HK4.o.trans k9);clear hr9 k9;go_wp2_with fail;exact way_end (by rfl) HR9.o HK9.o rfl rfl (by rw [HE.o]; rfl)
end Go.Proofs.YtegcgflhgfmkpaaGreatDoor
