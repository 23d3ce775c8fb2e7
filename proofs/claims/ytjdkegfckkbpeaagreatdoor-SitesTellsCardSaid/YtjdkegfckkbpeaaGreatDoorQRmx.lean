/- The document's own answers about tables (chaperonref05): Methods. The document's own answers about tables (chaperonref05): Members, Arity, Field. The document's greatest relations in plain words: a matrix of pairs of classes out of which is struck what the members do not bear; what it leaves at its end is what goes, and what is as precise. A matrix of bools of one's own in memory: a slice of slices; and the striking out of pairs, in plain words. The document's own answers about precision (chaperonref08): holds, members. -/
import Derived.Test.YtjdkegfckkbpeaaGreatDoorQTkl
import Derived.Test.YtjdkegfckkbpeaaGreatDoorQTkk
import Derived.Test.YtjdkegfckkbpeaaGreatDoorQz16
import Derived.Deep.RegionHeld3
import Derived.StillTactics
import Derived.Test.YtjdkegfckkbpeaaGreatDoorQz2
import Derived.StillTailTactics
set_option linter.unusedSimpArgs false
set_option linter.unusedVariables false
set_option maxRecDepth 100000
namespace Go.Proofs.YtjdkegfckkbpeaaGreatDoor
open Go.ChangeShapes Go.WideShapes Go.ChangeAt Go.RowKit
theorem addq_set {qs : List (Tab.M × Value)} {m : Tab.M} {pv : Value} {k : Nat} (h : Tab.ix Tab.M.name (qs.map Prod.fst) m.name = some k) : (qs.set k (m, pv)).map Prod.fst = Tab.addM (qs.map Prod.fst) m := by
 unfold Tab.addM
 rw [h, List.map_set]
theorem addq_new {qs : List (Tab.M × Value)} {m : Tab.M} {pv : Value} (h : Tab.ix Tab.M.name (qs.map Prod.fst) m.name = none) : (qs ++ [(m, pv)]).map Prod.fst = Tab.addM (qs.map Prod.fst) m := by
 unfold Tab.addM
 rw [h, List.map_append]
 rfl
theorem addM_le (l : List Tab.M) (m : Tab.M) : (Tab.addM l m).length ≤ l.length + 1 := by
 unfold Tab.addM
 split
 ·rw [List.length_set]; omega
 ·simp
theorem foldA_le : ∀ (ms l : List Tab.M), (ms.foldl Tab.addM l).length ≤ l.length + ms.length
 | [], l => by simp
 | m :: ms, l => by
  have h1 := foldA_le ms (Tab.addM l m)
  have h2 := addM_le l m
  simp only [List.foldl_cons, List.length_cons]
  omega
def mthsR (t : List Tab.C) (L : List Nat) (j : Nat) : List Tab.M := (L.reverse.take j).flatMap fun i => (Tab.nth t i).methods
theorem mthsR_next {t : List Tab.C} {L : List Nat} {i n j p : Nat} (hn : L.length = n) (hi : i + j + 1 = n) (hp : L[i]? = some p) : mthsR t L (j + 1) = mthsR t L j ++ (Tab.nth t p).methods := by
 unfold mthsR
 have : L.reverse[j]? = some p := by
  rw [List.getElem?_reverse (by omega), ← hp]
  congr 1
  omega
 rw [List.take_add_one, this]
 simp
/-- The methods so far, in a row of one's own; their parameters' rows lie in the table. -/
def MsR (w0 w1 : World) (ms : List Tab.M) (qs : List (Tab.M × Value)) (v : Value) (W : World) : Prop :=
 W.ownsRow w1.heap.size 47 3 v qs.length (qs.flatMap mCells) ∧ qs.map Prod.fst = ms ∧ (∀ y ∈ qs, Row 2 VarAt w0 y.2 y.1.params) ∧ Kept w1 W
theorem MsR.keep {w0 w1 : World} {ms : List Tab.M} {qs : List (Tab.M × Value)} {v : Value} {W W' : World} (h : MsR w0 w1 ms qs v W) (k : Kept W W') : MsR w0 w1 ms qs v W' :=
 ⟨owns_only (S := fun _ => False) h.1 (Only.of_kept k) (fun _ _ h => h), h.2.1, h.2.2.1, h.2.2.2.trans k⟩
def MthO (t : List Tab.C) (L : List Nat) (w0 w1 : World) (v q : Value) (W : World) : Prop :=
 ∃ (j : Nat) (qs : List (Tab.M × Value)), j ≤ L.length ∧ q = .int .i64 ((L.length : Int) - 1 - j) ∧ MsR w0 w1 ((mthsR t L j).foldl Tab.addM []) qs v W
def MthK (ms base : List Tab.M) (w0 w1 : World) (v q : Value) (W : World) : Prop :=
 ∃ (k : Nat) (qs : List (Tab.M × Value)), k ≤ ms.length ∧ q = .int .i64 k ∧ MsR w0 w1 ((ms.take k).foldl Tab.addM base) qs v W
theorem MsR.set {w0 w1 W : World} {ms : List Tab.M} {qs : List (Tab.M × Value)} {g n c k : Nat} {m : Tab.M} {pv : Value} (h : MsR w0 w1 ms qs (.slice (some ⟨g, 0, none⟩) n c) W) (hix : Tab.ix Tab.M.name ms m.name = some k) (hp : Row 2 VarAt w0 pv m.params) :
  MsR w0 w1 (Tab.addM ms m) (qs.set k (m, pv)) (.slice (some ⟨g, 0, none⟩) n c) (((W.setCell ⟨g, k * 3, none⟩ (.string m.name)).setCell ⟨g, k * 3 + 1, none⟩ pv).setCell ⟨g, k * 3 + 2, none⟩ (.string m.res)) := by
 obtain ⟨h1, h2, h3, h4⟩ := h
 have hn : n = qs.length := by
  rcases h1.2 with ⟨e, _⟩ | ⟨_, _, _, e, _⟩
  ·cases e
  ·injection e
 subst hn
 have hk : k < qs.length := by
  obtain ⟨hl, _⟩ := Tab.ix_lt hix
  rw [← h2, List.length_map] at hl
  exact hl
 have hg := (own_geC h1 (g := g) rfl).1
 refine ⟨?_, ?_, ?_, ((h4.setCell hg _).setCell hg _).setCell hg _⟩
 ·have r := owns_set (owns_set (owns_set h1 (i := k * 3) (by omega) (.string m.name)) (i := k * 3 + 1) (by omega) pv) (i := k * 3 + 2) (by omega) (.string m.res)
  rw [flat_set mCells mCells_len (y := (m, pv)) rfl qs k hk] at r
  rw [List.length_set]
  exact r
 ·rw [addq_set (by rw [h2]; exact hix), h2]
 ·intro y hy
  rcases List.mem_or_eq_of_mem_set hy with hy | rfl
  ·exact h3 y hy
  ·exact hp
theorem own_frz {w : World} {base k n m c g : Nat} {e : TypeId} {xs : List Value} (h : w.ownsRow base e k (.slice (some ⟨g, 0, none⟩) n c) m xs) (j : Nat) : w.frozen? ⟨g, j, none⟩ = false := by
 rcases h.2 with ⟨h0, _⟩ | ⟨g', cap, cur, hv, h1, h2, _⟩
 ·cases h0
 ·cases hv
  exact (show Blk w g e cur from h2).frozen j
set_option maxHeartbeats 16000000 in
theorem rmethods_c (t : List Tab.C) (a : Option Addr) (cp : Nat) (s : ByteArray) (w0 w : World) (hw : Kept w0 w) (h : TabAt w0 (.slice a t.length cp) t) (hS : Small t) :
  Calls Tryz.prog 128 #[.slice a t.length cp, .string s] w fun e w' => ∃ v qs, e = .returned v ∧ MsR w0 w (Tab.methods t s) qs v w' := by
 obtain ⟨i0, hi, hz0, hzz1, hzz2⟩ := info_parts info_sig
 have hfd : ∀ (n s : ByteArray) (fv : Value) (ma : Option Addr) (mn mc : Nat) (w : World), (Instr.field 44 (.agg #[.string n, .string s, fv, .slice ma mn mc]) 3).run Tryz.prog w = .ok (.slice ma mn mc) w := fun _ _ _ _ _ _ _ => by kernel_rfl
 have HS := Lib.hid (rsupers_c t a cp s w (tab_kept h hw) hS.len)
 have HRC := Lib.hid (fun (nm : ByteArray) (i : Nat) (W : World) (k : Kept w0 W) (e : Tab.ix Tab.C.name t nm = some i) => rclass_k t a cp nm i w0 W h k e)
 have HSM := Lib.hid hS
 have HW := Lib.hid hw
 have ht := hS.len
 clear h hS hw
 go_enter Tryz.func128, Tryz.ntmps128
 go_wp2_with fail
 refine HS.out.mono ?_
 rintro e w1 ⟨v1, rfl, hr1, k1⟩
 have HK1 := Lib.hid k1
 obtain ⟨L, hL⟩ : ∃ L, Tab.line t s = L := ⟨_, rfl⟩
 have hix := lineF_ix t (t.length + 1) [] s
 rw [show Tab.lineF t (t.length + 1) [] s = L from hL] at hix
 have HIX := Lib.hid hix
 have hll : L.length ≤ t.length := by rw [← hL]; exact Tab.line_short t s
 have hfs : Tab.methods t s = (mthsR t L L.length).foldl Tab.addM [] := by
  unfold Tab.methods mthsR
  rw [hL, List.take_of_length_le (by simp)]
 have hsu : Tab.supers t s = nmsOf t L := by unfold Tab.supers nmsOf; rw [hL]
 have hnl : (nmsOf t L).length = L.length := by unfold nmsOf; simp
 rw [hsu] at hr1
 have hrow := owns_txt hr1
 rw [hnl] at hr1
 obtain ⟨la, lc, rfl⟩ := owns_slice_n hr1
 obtain ⟨_, _, e, m1, m2, m3⟩ := hrow
 injection e with e1 _ e3
 subst e1 e3
 rw [hnl] at m1
 unfold maxLen at m2
 have HRO := Lib.hid m3
 have HFS := Lib.hid hfs
 obtain ⟨n, hn⟩ : ∃ n, L.length = n := ⟨_, rfl⟩
 have HN := Lib.hid hn
 rw [hn] at hll m1 ⊢
 clear hr1 k1 hix hfs hsu hnl m3 hL HS hn
 go_wp2_with fail
 go_loopw [5, 7] (fun v q wr => MthO t L w0 w1 v q wr) (fun v q wr => (intOf q + 1).toNat)
 case atStart => exact ⟨0, [], Nat.zero_le _, by rw [HN.out]; go_num, World.ownsRow_nil _ _ _ _, rfl, (fun y hy => by cases hy), Kept.refl _⟩
 case round =>
  obtain ⟨j, qs, hj, rfl, hM⟩ := hrel
  have HMO := Lib.hid hM
  rw [HN.out] at hj
  obtain ⟨va, vn, vc, rfl⟩ := owns_slice hM.1
  by_cases hlt : j < n
  ·obtain ⟨i, hin⟩ : ∃ i, i + j + 1 = n := ⟨n - 1 - j, by omega⟩
   rw [show ((L.length : Int) - 1 - j) = (i : Int) by rw [HN.out]; omega]
   have hi0 : (0 : Int) ≤ (i : Int) := by omega
   have hi1 : (i : Int) < (n : Int) := by omega
   have hiL : i < L.length := by rw [HN.out]; omega
   have hp : L[i]? = some L[i] := List.getElem?_eq_getElem hiL
   generalize L[i] = p at hp
   have hn : (nmsOf t L)[i]? = some (Tab.nth t p).name := by unfold nmsOf; rw [List.getElem?_map, hp]; rfl
   obtain ⟨lb, lo, rfl, hcl⟩ := HRO.out _ _ hn
   have hc0 : w1.cell? ⟨lb, lo + i, none⟩ = some (.string (Tab.nth t p).name) := by simpa [TxtS] using hcl
   have c0 := hM.2.2.2.cell hc0
   have HC := Lib.hid (HRC.out (Tab.nth t p).name p wr (HW.out.trans (HK1.out.trans hM.2.2.2)) (HIX.out p (List.mem_of_getElem? hp)).2)
   have HX := Lib.hid (mthsR_next (t := t) HN.out hin hp)
   have hpt := (HIX.out p (List.mem_of_getElem? hp)).1
   have HFL := Lib.hid (HSM.out.methods _ (nth_mem hpt))
   have HFB := Lib.hid (show (mthsR t L j).length ≤ 1000 * 1000 by
    refine Nat.le_trans (flatR_le (fun i => (Tab.nth t i).methods) 1000 (L.reverse.take j) fun i hi => ?_) ?_
    ·exact HSM.out.methods _ (nth_mem (HIX.out i (List.mem_reverse.1 (List.mem_of_mem_take hi))).1)
    ·have := HN.out
     have hlen : (L.reverse.take j).length ≤ 1000 := by simp; omega
     exact Nat.mul_le_mul_left _ hlen)
   generalize (Tab.nth t p).name = pn at c0 HC
   have HQ := Lib.hid (show (L.length : Int) - 1 - ((j + 1 : Nat) : Int) = (i : Int) - 1 by rw [HN.out]; omega)
   have HJ := Lib.hid (show j + 1 ≤ L.length by rw [HN.out]; omega)
   clear hp hn hcl hc0 hpt hin hlt hiL hj hM
   go_wp2_with fail
   refine HC.out.mono ?_
   rintro e w2 ⟨⟨fv, mv, rfl, hf, hm⟩, k2⟩
   obtain ⟨fa, fc, rfl, _⟩ := id hf
   obtain ⟨base, hbase⟩ : ∃ b, (mthsR t L j).foldl Tab.addM [] = b := ⟨_, rfl⟩
   have HBL := Lib.hid (show base.length ≤ 1000 * 1000 by rw [← hbase]; have := foldA_le (mthsR t L j) []; have := HFB.out; simp at *; omega)
   rw [hbase] at HMO
   have HM2 := Lib.hid (HMO.out.keep k2)
   have HXB := Lib.hid (show (mthsR t L (j + 1)).foldl Tab.addM [] = (Tab.nth t p).methods.foldl Tab.addM base by rw [HX.out, List.foldl_append, hbase])
   clear hf k2 HC c0 HX hbase HFB HMO
   obtain ⟨ms, hms⟩ : ∃ ms, (Tab.nth t p).methods = ms := ⟨_, rfl⟩
   rw [hms] at HFL HXB hm
   obtain ⟨ma, mc, rfl, y1, y2, y3⟩ := hm
   unfold maxLen at y2
   have HMR := Lib.hid y3
   have hml := HFL.out
   clear hms y3
   go_wp2_with fail
   go_loopw [5, 9] (fun v q wr => MthK ms base w0 w1 v q wr) (fun v q wr => ms.length - (intOf q).toNat)
   case atStart => exact ⟨0, qs, Nat.zero_le _, rfl, HM2.out⟩
   case round =>
    obtain ⟨k, qk, hk, rfl, hMk⟩ := hrel
    have HMK := Lib.hid hMk
    obtain ⟨ka, kc, rfl⟩ := owns_slice_n hMk.1
    obtain ⟨wo, rfl⟩ : ∃ wo, wo = wr := ⟨_, rfl⟩
    by_cases hlk : k < ms.length
    ·have hlkI : (k : Int) < (ms.length : Int) := by omega
     have hx : ms[k]? = some ms[k] := List.getElem?_eq_getElem hlk
     obtain ⟨xb, xo, rfl, xc⟩ := HMR.out _ _ hx
     have HTK := Lib.hid (show (ms.take (k + 1)).foldl Tab.addM base = Tab.addM ((ms.take k).foldl Tab.addM base) ms[k] by rw [List.take_add_one, hx, List.foldl_append]; rfl)
     generalize ms[k] = m at hx xc HTK
     obtain ⟨x0, ⟨pv, x1, prow⟩, x2, z0, z2⟩ := xc
     have HPR := Lib.hid prow
     obtain ⟨pa, pc, rfl, _⟩ := prow
     generalize hpn : m.params.length = pn2 at x1 HPR
     have hqb : qk.length ≤ 1002000 := by
      have e := hMk.2.1
      have h1 := foldA_le (ms.take k) base
      have h2 : qk.length = ((ms.take k).foldl Tab.addM base).length := by rw [← e, List.length_map]
      have h3 := HBL.out
      have h4 : (ms.take k).length ≤ ms.length := by simp; omega
      omega
     have HQB := Lib.hid hqb
     obtain ⟨cur, hcur⟩ : ∃ cur, (ms.take k).foldl Tab.addM base = cur := ⟨_, rfl⟩
     rw [hcur] at HMK HTK
     have HX0 := Lib.hid x0
     have HX1 := Lib.hid x1
     have HX2 := Lib.hid x2
     clear hMk hx hcur hpn x0 x1 x2 hqb
     go_wp2_with fail
     go_loopw [10] (fun q wr => ∃ z : Nat, z ≤ qk.length ∧ q = .int .i64 z ∧ (∀ y ∈ cur.take z, ¬ y.name = m.name) ∧ Kept wo wr) (fun q wr => qk.length - (intOf q).toNat)
     case atStart => exact ⟨0, Nat.zero_le _, rfl, (fun y hy => by simp at hy), Kept.refl _⟩
     case round =>
      obtain ⟨z, hz, rfl, hno, hkz⟩ := hrel
      have HNO := Lib.hid hno
      have HMZ := Lib.hid (HMK.out.keep hkz)
      have HKZ := Lib.hid hkz
      have HKT := Lib.hid (HW.out.trans (HK1.out.trans HMZ.out.2.2.2))
      have b0 := HKT.out.cell HX0.out
      have b1 := HKT.out.cell HX1.out
      have b2 := HKT.out.cell HX2.out
      clear hno hkz
      by_cases hlz : z < qk.length
      ·have hlzI : (z : Int) < (qk.length : Int) := by omega
       obtain ⟨g, rfl, _⟩ := row_cells HMZ.out.1 (by omega)
       have hy : qk[z]? = some qk[z] := List.getElem?_eq_getElem hlz
       obtain ⟨d0, d1, d2⟩ := sig_cells HMZ.out.1 hy
       have hyc : cur[z]? = some qk[z].1 := by rw [← HMZ.out.2.1, List.getElem?_map, hy]; rfl
       generalize qk[z] = y at hy d0 d1 d2 hyc
       have HY := Lib.hid hyc
       clear hy hyc
       by_cases hn : y.1.name = m.name
       ·have hnb := beq_yes hn
        have hnb2 : (y.1.name.toList != m.name.toList) = false := by show (!(y.1.name.toList == m.name.toList)) = false; rw [hnb]; rfl
        have HIX2 := Lib.hid (Tab.ix_some HY.out hn HNO.out)
        have HSE := Lib.hid (MsR.set (HMZ.out.keep (Kept.refl wr).drew) HIX2.out HPR.out)
        have HFZ := Lib.hid (fun j => own_frz HMZ.out.1 j)
        clear hn
        go_wp2_with fail
        go_still (by kernel_rfl)
        have d0' : wr.drew.cell? ⟨g, z * 3, none⟩ = some (.string y.1.name) := d0
        have d1' : wr.drew.cell? ⟨g, z * 3 + 1, none⟩ = some y.2 := d1
        have d2' : wr.drew.cell? ⟨g, z * 3 + 2, none⟩ = some (.string y.1.res) := d2
        have f0 : wr.drew.frozen? ⟨g, z * 3, none⟩ = false := HFZ.out _
        have f1 : wr.drew.frozen? ⟨g, z * 3 + 1, none⟩ = false := HFZ.out _
        have f2 : wr.drew.frozen? ⟨g, z * 3 + 2, none⟩ = false := HFZ.out _
        have b0' := (Kept.refl wr).drew.cell b0
        have b1' := (Kept.refl wr).drew.cell b1
        have b2' := (Kept.refl wr).drew.cell b2
        have g0 : wr.frozen? ⟨g, z * 3, none⟩ = false := HFZ.out _
        have g1 : wr.frozen? ⟨g, z * 3 + 1, none⟩ = false := HFZ.out _
        have g2 : wr.frozen? ⟨g, z * 3 + 2, none⟩ = false := HFZ.out _
        go_wp2_with fail
        go_roundw
        case rel => exact ⟨k + 1, _, by omega, by go_num, by rw [HTK.out]; exact HSE.out⟩
        case measure => simp [intOf]; omega
       ·have hnb := beq_no hn
        have hnb2 : (y.1.name.toList != m.name.toList) = true := by show (!(y.1.name.toList == m.name.toList)) = true; rw [hnb]; rfl
        have hqb2 := HQB.out
        have HM := Lib.hid (take_not HNO.out HY.out hn)
        clear hn d1 d2 b1 b2
        go_wp2_with fail
        go_still (by kernel_rfl)
        go_wp2_with fail
        go_roundw
        case rel => exact ⟨z + 1, by omega, by go_num, HM.out, HKZ.out.drew⟩
        case measure => simp [intOf]; omega
      ·have hlzI : ¬ (z : Int) < (qk.length : Int) := by omega
       have HIX2 := Lib.hid (Tab.ix_none (nm := Tab.M.name) (l := cur) (s := m.name) (by have := HNO.out; rwa [List.take_of_length_le (by rw [← HMZ.out.2.1, List.length_map]; omega)] at this))
       have HRX := Lib.hid (owns_only (S := fun _ => False) HMZ.out.1 ((Only.refl _ wr).drew.alloc (.cells #[.string m.name, .slice pa pn2 pc, .string m.res] 47)) (fun _ _ h => h))
       have HSX := Lib.hid (src_sig wr.drew wr.heap.size rfl m.name m.res pa pn2 pc)
       have HKD := Lib.hid (HMZ.out.2.2.2.drew.alloc (.cells #[.string m.name, .slice pa pn2 pc, .string m.res] 47))
       have HGE := Lib.hid (fun q (e : (Value.slice ka qk.length kc).ownBlock = some q) => rown_ge HMZ.out.1 e)
       have hsz := HMZ.out.2.2.2.size
       have hqb2 := HQB.out
       go_wp2_with fail
       refine wp_region_held_drew (S := (fun W => W = wr.drew)) (by kernel_rfl) rfl (fun hHeld0 => ?_)
       refine nkH 0 ?_
       refine nkH 1 ?_
       refine nkH 2 ?_
       refine nkH 3 ?_
       refine nkH 4 ?_
       refine nkS 5 ?_
       refine nkS 6 ?_
       refine nkS 7 ?_
       refine nkS 8 ?_
       refine nkS 9 ?_
       refine nkS 10 ?_
       refine nkS 11 ?_
       refine nkS 12 ?_
       refine nkS 13 ?_
       refine nkS 14 ?_
       refine nkS 15 ?_
       refine nkH 16 ?_
       refine wpAnyH_done (by kernel_rfl) ?_ _
       clear hHeld0
       have b0' := (Kept.refl wr).drew.cell b0
       have b1' := (Kept.refl wr).drew.cell b1
       have b2' := (Kept.refl wr).drew.cell b2
       clear b0 b1 b2
       go_wp2_with (at_builtin; refine wpList_apk rfl (.tmp 64) (.tmp 69) 42 42 rfl w1.heap.size 3 47 i0 _ 56 Tryz.underlying42 hi hz0 hzz1 hzz2 rfl rfl HRX.out rfl HSX.out (by unfold maxLen; omega) (by omega) (by simp; omega) ?_; intro v' w3 hown' hgrow hlies; have HN3 := Lib.hid hown'; have HK3 := Lib.hid (HKD.out.grown hgrow fun k e => HGE.out k e); obtain ⟨va', vn', vc', rfl⟩ := owns_slice hown'; clear hown' hgrow hlies)
       go_roundw
       case rel =>
        refine ⟨k + 1, qk ++ [(m, .slice pa pn2 pc)], by omega, by go_num, ?_, ?_, ?_, HK3.out⟩
        ·rw [List.length_append, List.flatMap_append]
         exact HN3.out
        ·rw [HTK.out, ← HMZ.out.2.1]
         exact addq_new (by rw [HMZ.out.2.1]; exact HIX2.out)
        ·intro y hy
         rcases List.mem_append.1 hy with hy | hy
         ·exact HMZ.out.2.2.1 y hy
         ·obtain rfl := List.mem_singleton.1 hy
          exact HPR.out
       case measure => simp [intOf]; omega
    ·have hlkI : ¬ (k : Int) < (ms.length : Int) := by omega
     obtain rfl : k = ms.length := by omega
     have HE := Lib.hid (show MsR w0 w1 ((mthsR t L (j + 1)).foldl Tab.addM []) qk (.slice ka qk.length kc) wo by rw [HXB.out]; have := hMk; rwa [List.take_length] at this)
     clear hMk
     go_wp2_with fail
     go_roundw
     case rel => exact ⟨j + 1, qk, HJ.out, by rw [HQ.out], HE.out⟩
     case measure => simp [intOf] <;> omega
  ·have hjn : j = n := by omega
   subst hjn
   rw [show ((L.length : Int) - 1 - j) = -1 by rw [HN.out]; omega]
   have HE := Lib.hid (show MsR w0 w (Tab.methods t s) qs (.slice va vn vc) wr by
    obtain ⟨e1, e2, e3, e4⟩ := hM
    refine ⟨owns_base e1 HK1.out.size, ?_, e3, HK1.out.trans e4⟩
    rw [e2, HFS.out, HN.out])
   clear hM
   go_wp2_with fail
   go_ret
   exact ⟨_, _, rfl, HE.out⟩
end Go.Proofs.YtjdkegfckkbpeaaGreatDoor
namespace Go.Proofs.YtjdkegfckkbpeaaGreatDoor
open Go.ChangeShapes Go.WideShapes Go.ChangeAt Go.RowKit
namespace Tab
/-- The first of a name. -/
def aryR (t : List C) (s nm : ByteArray) : Option Int := ((members t s).find? fun x => decide (x.1 = nm)).map (·.2)
def fldR (t : List C) (s nm : ByteArray) : Option ByteArray := ((fields t s).find? fun x => decide (x.name = nm)).map (·.typ)
end Tab
def MmI (n₁ : Nat) (w1 : World) (l : List (ByteArray × Int)) (v : Value) (W : World) : Prop :=
 W.ownsRow n₁ 154 2 v l.length (l.flatMap bCells) ∧ Kept w1 W
theorem fields_le {t : List Tab.C} (hS : Small t) (s : ByteArray) : (Tab.fields t s).length ≤ 1000 * 1000 := by
 unfold Tab.fields
 refine Nat.le_trans (flatR_le (fun i => (Tab.nth t i).fields) 1000 _ fun i hi => hS.fields _ (nth_mem (Tab.line_lt (List.mem_reverse.1 hi)))) ?_
 have := Tab.line_short t s
 have := hS.len
 exact Nat.mul_le_mul_left _ (by simp; omega)
theorem methods_le {t : List Tab.C} (hS : Small t) (s : ByteArray) : (Tab.methods t s).length ≤ 1000 * 1000 := by
 unfold Tab.methods
 refine Nat.le_trans (foldA_le _ []) ?_
 rw [List.length_nil, Nat.zero_add]
 refine Nat.le_trans (flatR_le (fun i => (Tab.nth t i).methods) 1000 _ fun i hi => hS.methods _ (nth_mem (Tab.line_lt (List.mem_reverse.1 hi)))) ?_
 have := Tab.line_short t s
 have := hS.len
 exact Nat.mul_le_mul_left _ (by simp; omega)
set_option maxHeartbeats 8000000 in
theorem rmembers_c (t : List Tab.C) (a : Option Addr) (cp : Nat) (s : ByteArray) (w : World) (h : TabAt w (.slice a t.length cp) t) (hS : Small t) :
  Calls Tryz.prog 109 #[.slice a t.length cp, .string s] w fun e w' => ∃ v, e = .returned v ∧ w'.ownsRow w.heap.size 154 2 v (Tab.members t s).length ((Tab.members t s).flatMap bCells) ∧ Kept w w' := by
 obtain ⟨i0, hi, hz0, hzz1, hzz2⟩ := info_parts info_mem
 have HF := Lib.hid (rfields_c t a cp s w h hS)
 have HM := Lib.hid (fun (W : World) (k : Kept w W) => rmethods_c t a cp s w W k h hS)
 have HFL := Lib.hid (fields_le hS s)
 have HML := Lib.hid (methods_le hS s)
 have HME := Lib.hid (show Tab.members t s = fMem (Tab.fields t s) ++ (Tab.methods t s).map fun m => (m.name, (m.params.length : Int)) from rfl)
 generalize Tab.members t s = ans at HME ⊢
 generalize Tab.fields t s = F at HF HFL HME
 generalize Tab.methods t s = M at HM HML HME
 have hfl := HFL.out
 have hml := HML.out
 clear h hS
 go_enter Tryz.func109, Tryz.ntmps109
 go_wp2_with fail
 refine HF.out.mono ?_
 rintro e w1 ⟨fv, rfl, hr1, k1⟩
 obtain ⟨fa, fc, rfl⟩ := owns_slice_n hr1
 have HR1 := Lib.hid hr1
 have HK1 := Lib.hid k1
 clear hr1 k1
 go_wp2_with fail
 refine (HM.out _ HK1.out).mono ?_
 rintro e w2 ⟨mv, qs, rfl, hmr⟩
 obtain ⟨ma, mc, rfl⟩ := owns_slice_n hmr.1
 have HMR := Lib.hid hmr
 have hql : qs.length ≤ 1000 * 1000 := by have := hmr.2.1; rw [← this] at hml; simpa using hml
 have HMQ := Lib.hid (show M.map (fun m => (m.name, (m.params.length : Int))) = sMem qs by rw [← hmr.2.1, List.map_map]; rfl)
 have HR2 := Lib.hid (owns_only (S := fun _ => False) HR1.out (Only.of_kept hmr.2.2.2) (fun _ _ h => h))
 have HK2 := Lib.hid (HK1.out.trans hmr.2.2.2)
 clear hmr HR1 hml HML
 go_wp2_with fail
 go_loopw [5, 8] (fun l q wr => ∃ j : Nat, q = .int .i64 j ∧ j ≤ F.length ∧ MmI w2.heap.size w2 (fMem (F.take j)) l wr) (fun l q wr => F.length - (intOf q).toNat)
 case atStart => exact ⟨0, rfl, Nat.zero_le _, World.ownsRow_nil _ _ _ _, Kept.refl _⟩
 case round =>
  obtain ⟨j, rfl, hj, hR⟩ := hrel
  obtain ⟨wo, rfl⟩ : ∃ wo, wo = wr := ⟨_, rfl⟩
  have HO := Lib.hid hR
  obtain ⟨la, ln, lc, rfl⟩ := owns_slice hR.1
  by_cases hlt : j < F.length
  ·have hltI : (j : Int) < (F.length : Int) := by omega
   have hx : F[j]? = some F[j] := List.getElem?_eq_getElem hlt
   generalize F[j] = x at hx
   obtain ⟨g, rfl, _⟩ := row_cells HR2.out (by omega)
   have c0 := hR.2.cell (var_cells HR2.out hx).1
   have HX := Lib.hid (show fMem (F.take (j + 1)) = fMem (F.take j) ++ [(x.name, -1)] by rw [List.take_add_one, hx]; unfold fMem; simp)
   have HL := Lib.hid (show (fMem (F.take j)).length = j by unfold fMem; simp; omega)
   have HRX := Lib.hid (owns_only (S := fun _ => False) hR.1 ((Only.refl _ wo).alloc (.cells #[.string x.name, .int .i64 (-1)] 154)) (fun _ _ h => h))
   have HSX := Lib.hid (src_two wo (x.name, -1))
   have HB := Lib.hid hR.2.size
   have HGE := Lib.hid (fun q (e : (Value.slice la ln lc).ownBlock = some q) => rown_ge hR.1 e)
   clear hx hR
   go_wp2_with (at_builtin; refine wpList_apk rfl (.tmp 22) (.tmp 29) 150 150 rfl w2.heap.size 2 154 i0 _ 24 Tryz.underlying150 hi hz0 hzz1 hzz2 rfl rfl HRX.out rfl HSX.out (by rw [HL.out]; unfold maxLen; omega) (by rw [HL.out]; omega) (by have := HB.out; simp; omega) ?_; intro v' w3 hown' hgrow hlies; have HN := Lib.hid hown'; have HK3 := Lib.hid ((HO.out.2.alloc (.cells #[.string x.name, .int .i64 (-1)] 154)).grown hgrow fun k e => HGE.out k e); obtain ⟨va', vn', vc', rfl⟩ := owns_slice hown'; clear hown' hgrow hlies)
   go_roundw
   case rel =>
    refine ⟨j + 1, by go_num, by omega, ?_, HK3.out⟩
    rw [HX.out, List.length_append, List.flatMap_append]
    exact HN.out
   case measure => simp [intOf]; omega
  ·have hltI : ¬ (j : Int) < (F.length : Int) := by omega
   obtain rfl : j = F.length := by omega
   rw [List.take_length] at HO
   clear hR
   go_wp2_with fail
   go_loopw [5, 9] (fun l q wr => ∃ j : Nat, q = .int .i64 j ∧ j ≤ qs.length ∧ MmI w2.heap.size w2 (fMem F ++ sMem (qs.take j)) l wr) (fun l q wr => qs.length - (intOf q).toNat)
   case atStart => exact ⟨0, rfl, Nat.zero_le _, by simpa [sMem] using HO.out.1, HO.out.2⟩
   case round =>
    obtain ⟨j, rfl, hj, hR⟩ := hrel
    have HO3 := Lib.hid hR
    obtain ⟨la3, ln3, lc3, rfl⟩ := owns_slice hR.1
    by_cases hlt2 : j < qs.length
    ·have hltI2 : (j : Int) < (qs.length : Int) := by omega
     have hx : qs[j]? = some qs[j] := List.getElem?_eq_getElem hlt2
     generalize qs[j] = x at hx
     obtain ⟨g, rfl, _⟩ := row_cells HMR.out.1 (by omega)
     obtain ⟨c0, c1, c2⟩ := sig_cells HMR.out.1 hx
     obtain ⟨pa, pc, hpe, p1, p2, _⟩ := HMR.out.2.2.1 x (List.mem_of_getElem? hx)
     unfold maxLen at p2
     rw [hpe] at c1
     have d0 := hR.2.cell c0
     have d1 := hR.2.cell c1
     have HX := Lib.hid (show fMem F ++ sMem (qs.take (j + 1)) = (fMem F ++ sMem (qs.take j)) ++ [(x.1.name, (x.1.params.length : Int))] by rw [List.take_add_one, hx]; unfold sMem; simp)
     have HL := Lib.hid (show (fMem F ++ sMem (qs.take j)).length = F.length + j by unfold fMem sMem; simp; omega)
     obtain ⟨pn, hpn⟩ : ∃ pn, x.1.params.length = pn := ⟨_, rfl⟩
     rw [hpn] at d1 HX p1
     have HRX := Lib.hid (owns_only (S := fun _ => False) hR.1 ((Only.refl _ wr).drew.alloc (.cells #[.string x.1.name, .int .i64 pn] 154)) (fun _ _ h => h))
     have HSX := Lib.hid (src_two wr.drew (x.1.name, (pn : Int)))
     have HB := Lib.hid hR.2.size
     have HGE := Lib.hid (fun q (e : (Value.slice la3 ln3 lc3).ownBlock = some q) => rown_ge hR.1 e)
     have HKD := Lib.hid (hR.2.drew.alloc (.cells #[.string x.1.name, .int .i64 pn] 154))
     rw [hpn] at c1
     have HC0 := Lib.hid c0
     have HC1 := Lib.hid c1
     clear hx hR hpe hpn c0 c1 c2
     go_wp2_with fail
     refine wp_region_held_drew (S := (fun W => W.cell? ⟨g, j * 3, none⟩ = some (.string x.1.name) ∧ W.cell? ⟨g, j * 3 + 1, none⟩ = some (.slice pa pn pc) ∧ Kept w2 W)) (by kernel_rfl) ⟨d0, d1, HO3.out.2.drew⟩ (fun hHeld0 => ?_)
     refine nkH 0 ?_
     refine nkH 1 ?_
     refine nkH 2 ?_
     refine nkH 3 ?_
     refine nkH 4 ?_
     refine nkH 5 ?_
     refine nkH 6 ?_
     refine nkH 7 ?_
     refine nkH 8 ?_
     refine nkH 9 ?_
     refine nkH 10 ?_
     refine nkH 11 ?_
     refine nkH 12 ?_
     refine rdH [13] ?_
     refine AllReadyH.cons rfl (fun K hK => ?_) AllReadyH.nil
     go_simp
     refine hK.out _ _ ⟨HKD.out.cell HC0.out, HKD.out.cell HC1.out, HKD.out⟩ (fun hHeld1 => ?_)
     clear hK K
     (try simp only [Act.put, List.getElem_toArray, List.getElem_cons_zero, List.getElem_cons_succ, List.setIfInBounds_toArray, List.set_cons_zero, List.set_cons_succ])
     refine rdH [14] ?_
     refine AllReadyH.cons rfl (fun K hK => ?_) AllReadyH.nil
     refine step_apk rfl (.tmp 37) (.tmp 50) 150 150 rfl w2.heap.size 2 154 i0 _ 24 Tryz.underlying150 hi hz0 hzz1 hzz2 rfl rfl HRX.out rfl HSX.out (by rw [HL.out]; unfold maxLen; omega) (by rw [HL.out]; omega) (by have := HB.out; simp; omega) ?_
     intro v' w3 hown' hgrow hnl hlies
     have HN := Lib.hid hown'
     have HK3 := Lib.hid (HKD.out.grown hgrow fun k e => HGE.out k e)
     obtain ⟨va', vn', vc', rfl⟩ := owns_slice hown'
     clear hown' hgrow hlies hnl
     refine hK.out _ _ ⟨HK3.out.cell HC0.out, HK3.out.cell HC1.out, HK3.out⟩ (fun hHeld2 => ?_)
     clear hK K
     (try simp only [Act.put, List.getElem_toArray, List.getElem_cons_zero, List.getElem_cons_succ, List.setIfInBounds_toArray, List.set_cons_zero, List.set_cons_succ])
     refine nkH 15 ?_
     refine wpAnyH_done (by kernel_rfl) ?_ _
     clear hHeld0 hHeld1 hHeld2
     go_wp2_with fail
     go_roundw
     case rel =>
      refine ⟨j + 1, by go_num, by omega, ?_, HK3.out⟩
      rw [HX.out, List.length_append, List.flatMap_append]
      exact HN.out
     case measure => simp [intOf]; omega
    ·have hltI2 : ¬ (j : Int) < (qs.length : Int) := by omega
     obtain rfl : j = qs.length := by omega
     rw [List.take_length] at HO3
     have HA := Lib.hid (show ans = fMem F ++ sMem qs by rw [HME.out, HMQ.out])
     clear hR
     go_wp2_with fail
     go_ret
     exact ⟨_, rfl, owns_base (by rw [HA.out]; exact HO3.out.1) HK2.out.size, HK2.out.trans HO3.out.2⟩
def AryPost (r : Option Int) (w : World) (e : Ending) (w' : World) : Prop := e = .returned (.tuple #[.int .i64 (r.getD 0), .bool r.isSome]) ∧ Kept w w'
def FldPost (r : Option ByteArray) (w : World) (e : Ending) (w' : World) : Prop := e = .returned (.tuple #[.string (r.getD ⟨#[]⟩), .bool r.isSome]) ∧ Kept w w'
theorem find_hereN {α : Type} {nm : α → ByteArray} {l : List α} {j : Nat} {x : α} {s : ByteArray} (hx : l[j]? = some x) (h : ∀ y ∈ l.take j, ¬ nm y = s) (hp : nm x = s) : (l.find? fun y => decide (nm y = s)) = some x := by
 obtain ⟨hj, e⟩ := List.getElem?_eq_some_iff.1 hx
 rw [List.find?_eq_some_iff_append]
 refine ⟨decide_eq_true hp, l.take j, l.drop (j + 1), ?_, fun y hy => by simp [h y hy]⟩
 rw [← e, ← List.drop_eq_getElem_cons hj, List.take_append_drop]
theorem find_noneN {α : Type} {nm : α → ByteArray} {l : List α} {s : ByteArray} (h : ∀ y ∈ l.take l.length, ¬ nm y = s) : (l.find? fun y => decide (nm y = s)) = none := by
 rw [List.take_length] at h
 rw [List.find?_eq_none]
 intro y hy
 simp [h y hy]
theorem mem_cells {w : World} {base g n c : Nat} {l : List (ByteArray × Int)} (h : w.ownsRow base 154 2 (.slice (some ⟨g, 0, none⟩) n c) l.length (l.flatMap bCells)) {j : Nat} {x : ByteArray × Int} (hx : l[j]? = some x) : w.cell? ⟨g, j * 2, none⟩ = some (.string x.1) ∧ w.cell? ⟨g, j * 2 + 1, none⟩ = some (.int .i64 x.2) := by
 have c0 := h.cells (g := g) rfl _ _ (flat_at bCells bCells_len l j 0 x hx (by omega))
 have c1 := h.cells (g := g) rfl _ _ (flat_at bCells bCells_len l j 1 x hx (by omega))
 rw [addr_plain] at c0 c1
 exact ⟨by simpa using c0, by simpa using c1⟩
set_option maxHeartbeats 4000000 in
theorem rarity_c (t : List Tab.C) (a : Option Addr) (cp : Nat) (s nm : ByteArray) (w : World) (h : TabAt w (.slice a t.length cp) t) (hS : Small t) :
  Calls Tryz.prog 110 #[.slice a t.length cp, .string s, .string nm] w (AryPost (Tab.aryR t s nm) w) := by
 have HM := Lib.hid (rmembers_c t a cp s w h hS)
 have HL := Lib.hid (show (Tab.members t s).length ≤ 2000 * 1000 by
  have h1 := fields_le hS s
  have h2 := methods_le hS s
  unfold Tab.members
  simp
  omega)
 have HE := Lib.hid (show Tab.aryR t s nm = ((Tab.members t s).find? fun x => decide (x.1 = nm)).map (·.2) from rfl)
 generalize Tab.aryR t s nm = ans at HE ⊢
 generalize Tab.members t s = M at HM HL HE
 have hl := HL.out
 clear h hS
 go_enter Tryz.func110, Tryz.ntmps110
 go_wp2_with fail
 refine HM.out.mono ?_
 rintro e w1 ⟨v, rfl, hr, k1⟩
 obtain ⟨ma, mc, rfl⟩ := owns_slice_n hr
 have HR := Lib.hid hr
 have HK := Lib.hid k1
 clear hr k1
 go_wp2_with fail
 go_loopw [9] (fun q wr => ∃ j : Nat, q = .int .i64 j ∧ j ≤ M.length ∧ (∀ y ∈ M.take j, ¬ y.1 = nm) ∧ wr = w1) (fun q wr => M.length - (intOf q).toNat)
 case atStart => exact ⟨0, rfl, Nat.zero_le _, (fun y hy => by simp at hy), rfl⟩
 case round =>
  obtain ⟨j, rfl, hj, hno, rfl⟩ := hrel
  have HNO := Lib.hid hno
  clear hno
  by_cases hlt : j < M.length
  ·have hltI : (j : Int) < (M.length : Int) := by omega
   have hx : M[j]? = some M[j] := List.getElem?_eq_getElem hlt
   obtain ⟨g, rfl, _⟩ := row_cells HR.out (by omega)
   obtain ⟨c0, c1⟩ := mem_cells HR.out hx
   generalize M[j] = x at hx c0 c1
   have HX := Lib.hid hx
   clear hx
   by_cases hn : x.1 = nm
   ·have hb := beq_yes hn
    obtain rfl : ans = some x.2 := by rw [HE.out, find_hereN HX.out HNO.out hn]; rfl
    clear hn
    go_wp2_with fail
    go_ret2
    exact ⟨rfl, HK.out⟩
   ·have hb := beq_no hn
    have HN := Lib.hid (take_not HNO.out HX.out hn)
    clear hn
    go_wp2_with fail
    go_roundw
    case rel => exact ⟨j + 1, by go_num, by omega, HN.out, by first | trivial | rfl⟩
    case measure => simp [intOf]; omega
  ·have hltI : ¬ (j : Int) < (M.length : Int) := by omega
   obtain rfl : j = M.length := by omega
   obtain rfl : ans = none := by rw [HE.out, find_noneN HNO.out]; rfl
   go_wp2_with fail
   go_ret2
   exact ⟨rfl, HK.out⟩
set_option maxHeartbeats 4000000 in
theorem rfieldq_c (t : List Tab.C) (a : Option Addr) (cp : Nat) (s nm : ByteArray) (w : World) (h : TabAt w (.slice a t.length cp) t) (hS : Small t) :
  Calls Tryz.prog 111 #[.slice a t.length cp, .string s, .string nm] w (FldPost (Tab.fldR t s nm) w) := by
 have HM := Lib.hid (rfields_c t a cp s w h hS)
 have HL := Lib.hid (fields_le hS s)
 have HE := Lib.hid (show Tab.fldR t s nm = ((Tab.fields t s).find? fun x => decide (x.name = nm)).map (·.typ) from rfl)
 generalize Tab.fldR t s nm = ans at HE ⊢
 generalize Tab.fields t s = M at HM HL HE
 have hl := HL.out
 clear h hS
 go_enter Tryz.func111, Tryz.ntmps111
 go_wp2_with fail
 refine HM.out.mono ?_
 rintro e w1 ⟨v, rfl, hr, k1⟩
 obtain ⟨ma, mc, rfl⟩ := owns_slice_n hr
 have HR := Lib.hid hr
 have HK := Lib.hid k1
 clear hr k1
 go_wp2_with fail
 go_loopw [9] (fun q wr => ∃ j : Nat, q = .int .i64 j ∧ j ≤ M.length ∧ (∀ y ∈ M.take j, ¬ y.name = nm) ∧ wr = w1) (fun q wr => M.length - (intOf q).toNat)
 case atStart => exact ⟨0, rfl, Nat.zero_le _, (fun y hy => by simp at hy), rfl⟩
 case round =>
  obtain ⟨j, rfl, hj, hno, rfl⟩ := hrel
  have HNO := Lib.hid hno
  clear hno
  by_cases hlt : j < M.length
  ·have hltI : (j : Int) < (M.length : Int) := by omega
   have hx : M[j]? = some M[j] := List.getElem?_eq_getElem hlt
   obtain ⟨g, rfl, _⟩ := row_cells HR.out (by omega)
   obtain ⟨c0, c1⟩ := var_cells HR.out hx
   generalize M[j] = x at hx c0 c1
   have HX := Lib.hid hx
   clear hx
   by_cases hn : x.name = nm
   ·have hb := beq_yes hn
    obtain rfl : ans = some x.typ := by rw [HE.out, find_hereN HX.out HNO.out hn]; rfl
    clear hn
    go_wp2_with fail
    go_ret2
    exact ⟨rfl, HK.out⟩
   ·have hb := beq_no hn
    have HN := Lib.hid (take_not HNO.out HX.out hn)
    clear hn
    go_wp2_with fail
    go_roundw
    case rel => exact ⟨j + 1, by go_num, by omega, HN.out, by first | trivial | rfl⟩
    case measure => simp [intOf]; omega
  ·have hltI : ¬ (j : Int) < (M.length : Int) := by omega
   obtain rfl : j = M.length := by omega
   obtain rfl : ans = none := by rw [HE.out, find_noneN HNO.out]; rfl
   go_wp2_with fail
   go_ret2
   exact ⟨rfl, HK.out⟩
end Go.Proofs.YtjdkegfckkbpeaaGreatDoor
namespace Go.Proofs.YtjdkegfckkbpeaaGreatDoor.Tab
theorem any_one {α : Type} {p : α → Bool} {l : List α} {x : α} (hx : x ∈ l) (h : ∀ y ∈ l, p y = true → p x = true) : l.any p = p x := by
 rw [Bool.eq_iff_iff, List.any_eq_true]
 exact ⟨fun ⟨y, hy, e⟩ => h y hy e, fun e => ⟨x, hx, e⟩⟩
/-- What a class' field, and method, of a name is. -/
def fdD (t : List C) (s nm : ByteArray) : ByteArray := (field t s nm).getD ⟨#[]⟩
def mtD (t : List C) (s nm : ByteArray) : M := ((method t s nm).map Prod.fst).getD ⟨⟨#[]⟩, [], ⟨#[]⟩⟩
theorem isC_good {t : List C} (hv : Valid t) {c : ByteArray} (h : isC t c = true) : Good t c := by
 obtain ⟨i, hi, rfl⟩ := isC_at h
 exact hv.good hi
theorem alike_fld {t : List C} (hv : Valid t) {s : ByteArray} (hs : isC t s = true) {x : Mb ByteArray} {f : V} (hx : x ∈ mbs t s) (ha : alike x (mbF f) = true) : x.types = [fdD t s f.name] := by
 have g := isC_good hv hs
 obtain ⟨e1, e2⟩ := alike_iff.1 ha
 unfold mbs at hx
 rcases List.mem_append.1 hx with hx | hx
 ·obtain ⟨y, hy, rfl⟩ := List.mem_map.1 hx
  have e1 : y.name = f.name := e1
  unfold fdD
  rw [← e1, g.fd y hy]
  rfl
 ·obtain ⟨y, hy, rfl⟩ := List.mem_map.1 hx
  have e2 : (y.params.length : Int) = -1 := e2
  omega
theorem alike_mth {t : List C} (hv : Valid t) {s : ByteArray} (hs : isC t s = true) {x : Mb ByteArray} {q : M} (hx : x ∈ mbs t s) (ha : alike x (mbM q) = true) : x.types = (mtD t s q.name).params.map (·.typ) ++ [(mtD t s q.name).res] ∧ (mtD t s q.name).params.length = q.params.length := by
 have g := isC_good hv hs
 obtain ⟨e1, e2⟩ := alike_iff.1 ha
 unfold mbs at hx
 rcases List.mem_append.1 hx with hx | hx
 ·obtain ⟨y, hy, rfl⟩ := List.mem_map.1 hx
  have e2 : (-1 : Int) = (q.params.length : Int) := e2
  omega
 ·obtain ⟨y, hy, rfl⟩ := List.mem_map.1 hx
  have e1 : y.name = q.name := e1
  have e2 : (y.params.length : Int) = (q.params.length : Int) := e2
  obtain ⟨j, _, h⟩ := g.md y hy
  have e : mtD t s q.name = y := by unfold mtD; rw [← e1, h]; rfl
  rw [e]
  exact ⟨rfl, by omega⟩
theorem at_isC {t : List C} {s : ByteArray} : isC t s = true ↔ ∃ i, at' t s = some i := by
 unfold isC at'
 rw [Option.isSome_iff_exists]
theorem at_nth {t : List C} {s : ByteArray} {i : Nat} (h : at' t s = some i) : i < t.length ∧ s = (nth t i).name := by
 obtain ⟨hl, hn⟩ := ix_lt h
 exact ⟨hl, by rw [nth_of (List.getElem?_eq_getElem hl)]; exact hn.symm⟩
/-- A type goes to another one, as far as is known of pairs of classes. -/
def goG (t : List C) (P : Nat → Nat → Bool) (s u : ByteArray) : Bool := decide (s = ⟨#[63]⟩) || decide (u = ⟨#[63]⟩) || decide (u ∈ up t s) || (match at' t s, at' t u with
 | some i, some k => P i k
 | _, _ => false)
theorem ats_true {t : List C} (ho : ok t = true) {s u : ByteArray} (hs : isT t s = true) (hu : isT t u = true) : ats t s u = true := by
 unfold ats; rw [hs, hu, ho]; rfl
/-! P8.1 by a matrix -/
def hoP (t : List C) (P : Nat → Nat → Bool) (s u : ByteArray) : Bool := decide (s = u) || decide (u = ⟨#[63]⟩) || (match at' t s, at' t u with
 | some i, some k => P i k
 | _, _ => false)
/-- What is asked of a class for another one's member. -/
def mokB (R : ByteArray → ByteArray → Bool) (t : List C) (s : ByteArray) (m : Mb ByteArray) : Bool := (mbs t s).any fun x => alike x m && (x.types.zip m.types).all fun q => R q.1 q.2
def hoM (R : ByteArray → ByteArray → Bool) (t : List C) (s u : ByteArray) : Bool := (mbs t u).all (mokB R t s)
theorem hoP_alw {t : List C} {P : Nat → Nat → Bool} {q : P2} (h : alw q = true) : hoP t P q.1 q.2 = true := by
 unfold hoP
 unfold alw at h
 rw [h]; rfl
theorem hoP_keep {t : List C} (hv : Valid t) {P : Nat → Nat → Bool} (hP : ∀ i k, i < t.length → k < t.length → Pre t ((nth t i).name, (nth t k).name) → P i k = true) {i k : Nat} (hi : i < t.length) (hk : k < t.length) (h : Pre t ((nth t i).name, (nth t k).name)) :
  hoM (hoP t P) t (nth t i).name (nth t k).name = true := by
 obtain ⟨h1, h2, h3⟩ := pre_closed t _ h
 unfold hoM
 rw [List.all_eq_true]
 intro m hm
 obtain ⟨x, hx, ha⟩ := hasB_iff.1 h2 m hm
 unfold mokB
 rw [List.any_eq_true]
 refine ⟨x, hx, ?_⟩
 rw [ha, Bool.true_and, List.all_eq_true]
 intro q hq
 cases hal : alw q with
 | true => exact hoP_alw hal
 | false =>
  have hz : q ∈ zipT x.types m.types := by
   unfold zipT
   rw [List.mem_filter]
   exact ⟨hq, by rw [hal]; rfl⟩
  have hp := h3 m hm x hx ha q hz
  obtain ⟨hb1, hb2⟩ := both_iff.1 (pre_both hp)
  obtain ⟨a, ea⟩ := at_isC.1 hb1
  obtain ⟨b, eb⟩ := at_isC.1 hb2
  obtain ⟨ha1, ha2⟩ := at_nth ea
  obtain ⟨hb1, hb2⟩ := at_nth eb
  unfold hoP
  rw [ea, eb]
  simp only [Bool.or_eq_true]
  right
  refine hP a b ha1 hb1 ?_
  rw [← ha2, ← hb2]
  exact hp
theorem hoP_end {t : List C} (hv : Valid t) {P : Nat → Nat → Bool} (hE : ∀ i k, i < t.length → k < t.length → P i k = true → hoM (hoP t P) t (nth t i).name (nth t k).name = true) {i k : Nat} (hi : i < t.length) (hk : k < t.length) (h : P i k = true) : Pre t ((nth t i).name, (nth t k).name) := by
 refine ⟨fun p => ∃ i k, i < t.length ∧ k < t.length ∧ p = ((nth t i).name, (nth t k).name) ∧ P i k = true, ?_, i, k, hi, hk, rfl, h⟩
 rintro p ⟨i, k, hi, hk, rfl, hp⟩
 have hM := hE i k hi hk hp
 unfold hoM at hM
 rw [List.all_eq_true] at hM
 refine ⟨both_iff.2 ⟨hv.isC hi, hv.isC hk⟩, hasB_iff.2 fun m hm => ?_, ?_⟩
 ·have := hM m hm
  unfold mokB at this
  rw [List.any_eq_true] at this
  obtain ⟨x, hx, e⟩ := this
  simp only [Bool.and_eq_true] at e
  exact ⟨x, hx, e.1⟩
 ·intro m hm x hx ha q hq
  have := hM m hm
  unfold mokB at this
  rw [List.any_eq_true] at this
  obtain ⟨y, hy, e⟩ := this
  simp only [Bool.and_eq_true] at e
  have hyx : y = x := mbs_unique hv (hv.isC hi) hy hx (by rw [(alike_iff.1 e.1).1, (alike_iff.1 ha).1])
  subst hyx
  unfold zipT at hq
  rw [List.mem_filter] at hq
  have hq2 := List.all_eq_true.1 e.2 q hq.1
  have hal : alw q = false := by simpa using hq.2
  unfold hoP at hq2
  unfold alw at hal
  rw [hal, Bool.false_or] at hq2
  cases ea : at' t q.1 with
  | none => rw [ea] at hq2; cases hq2
  | some a =>
   cases eb : at' t q.2 with
   | none => rw [ea, eb] at hq2; cases hq2
   | some b =>
    rw [ea, eb] at hq2
    obtain ⟨ha1, ha2⟩ := at_nth ea
    obtain ⟨hb1, hb2⟩ := at_nth eb
    exact ⟨a, b, ha1, hb1, by rw [← ha2, ← hb2], hq2⟩
theorem hoP_precise {t : List C} (ho : ok t = true) {P : Nat → Nat → Bool} (hP : ∀ i k, i < t.length → k < t.length → (P i k = true ↔ Pre t ((nth t i).name, (nth t k).name))) {s u : ByteArray} (hs : isT t s = true) (hu : isT t u = true) : precise t s u = hoP t P s u := by
 unfold precise pcs hoP
 rw [ats_true ho hs hu, Bool.true_and]
 unfold alw
 congr 1
 rw [Bool.eq_iff_iff, prec_iff]
 constructor
 ·intro h
  obtain ⟨hb1, hb2⟩ := both_iff.1 (pre_both h)
  obtain ⟨a, ea⟩ := at_isC.1 hb1
  obtain ⟨b, eb⟩ := at_isC.1 hb2
  have ea : at' t s = some a := ea
  have eb : at' t u = some b := eb
  obtain ⟨ha1, ha2⟩ := at_nth ea
  obtain ⟨hb1, hb2⟩ := at_nth eb
  rw [ea, eb]
  refine (hP a b ha1 hb1).2 ?_
  rw [← ha2, ← hb2]
  exact h
 ·intro h
  cases ea : at' t s with
  | none => rw [ea] at h; cases h
  | some a =>
   cases eb : at' t u with
   | none => rw [ea, eb] at h; cases h
   | some b =>
    rw [ea, eb] at h
    obtain ⟨ha1, ha2⟩ := at_nth ea
    obtain ⟨hb1, hb2⟩ := at_nth eb
    have := (hP a b ha1 hb1).1 h
    rw [← ha2, ← hb2] at this
    exact this
/-! Matrices: how many pairs are left, and striking one out. -/
def offM (P : Nat → Nat → Bool) (i k : Nat) : Nat → Nat → Bool := fun a b => if a = i ∧ b = k then false else P a b
def cntM (n : Nat) (P : Nat → Nat → Bool) : Nat := ((sqr n).filter fun p => P p.1 p.2).length
theorem cnt_le (n : Nat) (P : Nat → Nat → Bool) : cntM n P ≤ n * n := by
 unfold cntM
 rw [← sqr_length]
 exact List.length_filter_le _ _
theorem filter_lt {α : Type} {p q : α → Bool} (hpq : ∀ x, q x = true → p x = true) {x : α} (hp : p x = true) (hq : q x = false) : ∀ {l : List α}, x ∈ l → (l.filter q).length < (l.filter p).length
 | y :: l, h => by
  have hle : ∀ l : List α, (l.filter q).length ≤ (l.filter p).length := fun l => by
   induction l with
   | nil => exact Nat.le_refl _
   | cons z l ih =>
    rw [List.filter_cons, List.filter_cons]
    cases hz : q z with
    | true => rw [hpq z hz]; simpa using ih
    | false =>
     cases p z with
     | true => simp; omega
     | false => simpa using ih
  rw [List.filter_cons, List.filter_cons]
  rcases List.mem_cons.1 h with e | e
  ·subst e
   rw [hp, hq]
   have := hle l
   simp
   omega
  ·have ih := filter_lt hpq hp hq (l := l) e
   cases hz : q y with
   | true => rw [hpq y hz]; simpa using ih
   | false =>
    cases p y with
    | true => simp; omega
    | false => simpa using ih
theorem cnt_off {n : Nat} {P : Nat → Nat → Bool} {i k : Nat} (hi : i < n) (hk : k < n) (h : P i k = true) : cntM n (offM P i k) < cntM n P := by
 unfold cntM
 refine filter_lt (p := fun p => P p.1 p.2) (q := fun p => offM P i k p.1 p.2) (x := (i, k)) (fun x hx => ?_) h (by simp [offM]) (mem_sqr.2 ⟨hi, hk⟩)
 unfold offM at hx
 split at hx
 ·cases hx
 ·exact hx
end Go.Proofs.YtjdkegfckkbpeaaGreatDoor.Tab
namespace Go.Proofs.YtjdkegfckkbpeaaGreatDoor
open Go.ChangeShapes Go.WideShapes Go.ChangeAt Go.RowKit
namespace Tab
/-- A pass over all pairs: either nothing has been struck out of P, and what has been looked at is borne; or there is less. -/
def MdG (Q : (Nat → Nat → Bool) → Nat → Nat → Prop) (n : Nat) (P P' : Nat → Nat → Bool) (ag : Bool) (done : Nat → Nat → Prop) : Prop :=
 (ag = false ∧ P' = P ∧ ∀ i k, done i k → P i k = true → Q P i k) ∨ (ag = true ∧ cntM n P' < cntM n P)
theorem MdG.start {Q : (Nat → Nat → Bool) → Nat → Nat → Prop} {n : Nat} {P : Nat → Nat → Bool} {done : Nat → Nat → Prop} (h : ∀ i k, ¬ done i k) : MdG Q n P P false done := .inl ⟨rfl, rfl, fun i k hd => absurd hd (h i k)⟩
theorem MdG.keep {Q : (Nat → Nat → Bool) → Nat → Nat → Prop} {n : Nat} {P P' : Nat → Nat → Bool} {ag : Bool} {done done' : Nat → Nat → Prop} (h : MdG Q n P P' ag done) (hd : ∀ i k, done' i k → done i k ∨ (P' i k = true → Q P' i k)) : MdG Q n P P' ag done' := by
 rcases h with ⟨h1, h2, h3⟩ | h
 ·refine .inl ⟨h1, h2, fun i k hdk hp => ?_⟩
  rcases hd i k hdk with e | e
  ·exact h3 i k e hp
  ·rw [h2] at e; exact e hp
 ·exact .inr h
theorem MdG.off {Q : (Nat → Nat → Bool) → Nat → Nat → Prop} {n : Nat} {P P' : Nat → Nat → Bool} {ag : Bool} {done done' : Nat → Nat → Prop} (h : MdG Q n P P' ag done) {i k : Nat} (hi : i < n) (hk : k < n) (hp : P' i k = true) : MdG Q n P (offM P' i k) true done' := by
 have hc := cnt_off hi hk hp
 rcases h with ⟨_, h2, _⟩ | ⟨_, h2⟩
 ·rw [h2] at hc ⊢; exact .inr ⟨rfl, hc⟩
 ·exact .inr ⟨rfl, by omega⟩
theorem MdG.end {Q : (Nat → Nat → Bool) → Nat → Nat → Prop} {n : Nat} {P P' : Nat → Nat → Bool} {ag : Bool} {done : Nat → Nat → Prop} (h : MdG Q n P P' ag done) (hd : ∀ i k, i < n → k < n → done i k) : 2 * cntM n P' + (if ag = true then 1 else 0) < 2 * cntM n P + 1 ∧ (ag = false → ∀ i k, i < n → k < n → P' i k = true → Q P' i k) := by
 rcases h with ⟨h1, h2, h3⟩ | ⟨h1, h2⟩
 ·subst h1 h2
  exact ⟨by simp, fun _ i k hi hk hp => h3 i k (hd i k hi hk) hp⟩
 ·subst h1
  exact ⟨by simp; omega, fun e => by cases e⟩
theorem keep_off {K : Nat → Nat → Prop} {n : Nat} {P : Nat → Nat → Bool} {i k : Nat} (h : ∀ a b, a < n → b < n → K a b → P a b = true) (hn : ¬ K i k) : ∀ a b, a < n → b < n → K a b → offM P i k a b = true := by
 intro a b ha hb hk
 unfold offM
 rw [if_neg]
 ·exact h a b ha hb hk
 ·rintro ⟨rfl, rfl⟩
  exact hn hk
end Tab
/-- A matrix that can be read. -/
def MatV (n : Nat) (P : Nat → Nat → Bool) (v : Value) (W : World) : Prop :=
 ∃ a c, v = .slice a n c ∧ n ≤ c ∧ c ≤ maxLen ∧ ∀ i, i < n → ∃ b rb, a = some ⟨b, 0, none⟩ ∧ W.cell? ⟨b, i, none⟩ = some (.slice (some ⟨rb, 0, none⟩) n n) ∧ ∀ k, k < n → W.cell? ⟨rb, k, none⟩ = some (.bool (P i k))
theorem MatV.kept {n : Nat} {P : Nat → Nat → Bool} {v : Value} {W W' : World} (h : MatV n P v W) (k : Kept W W') : MatV n P v W' := by
 obtain ⟨a, c, e, h1, h2, h3⟩ := h
 refine ⟨a, c, e, h1, h2, fun i hi => ?_⟩
 obtain ⟨b, rb, e1, e2, e3⟩ := h3 i hi
 exact ⟨b, rb, e1, k.cell e2, fun q hq => k.cell (e3 q hq)⟩
def rowV (n : Nat) (b : Nat) : Value := .slice (some ⟨b, 0, none⟩) n n
def RowB (base n : Nat) (f : Nat → Bool) (b : Nat) (W : World) : Prop := base ≤ b ∧ ∃ cs : Array Value, Blk W b 4 cs ∧ cs.size = n ∧ ∀ k, k < n → cs[k]? = some (.bool (f k))
theorem RowB.only {base n b : Nat} {f : Nat → Bool} {S : Nat → Prop} {W W' : World} (h : RowB base n f b W) (o : Only S W W') (hs : ¬ S b) : RowB base n f b W' := by
 obtain ⟨h1, cs, h2, h3⟩ := h
 exact ⟨h1, cs, h2.only o hs, h3⟩
theorem RowB.lt {base n b : Nat} {f : Nat → Bool} {W : World} (h : RowB base n f b W) : b < W.heap.size := by
 obtain ⟨_, cs, h2, _⟩ := h
 exact h2.lt
theorem RowB.cell {base n b : Nat} {f : Nat → Bool} {W : World} (h : RowB base n f b W) {k : Nat} (hk : k < n) : W.cell? ⟨b, k, none⟩ = some (.bool (f k)) := by
 obtain ⟨_, cs, h2, _, h4⟩ := h
 rw [h2.cell k]
 exact h4 k hk
theorem RowB.frz {base n b : Nat} {f : Nat → Bool} {W : World} (h : RowB base n f b W) (k : Nat) : W.frozen? ⟨b, k, none⟩ = false := by
 obtain ⟨_, cs, h2, _⟩ := h
 exact h2.frozen k
theorem RowB.congr {base n b : Nat} {f g : Nat → Bool} {W : World} (h : RowB base n f b W) (e : ∀ k, k < n → f k = g k) : RowB base n g b W := by
 obtain ⟨h1, cs, h2, h3, h4⟩ := h
 exact ⟨h1, cs, h2, h3, fun k hk => by rw [← e k hk]; exact h4 k hk⟩
theorem RowB.set {base n b : Nat} {f g : Nat → Bool} {W : World} (h : RowB base n f b W) {k : Nat} (hk : k < n) (x : Bool) (e : ∀ q, q < n → g q = if q = k then x else f q) : RowB base n g b (W.setCell ⟨b, k, none⟩ (.bool x)) := by
 obtain ⟨h1, cs, h2, h3, h4⟩ := h
 refine ⟨h1, _, h2.put k (.bool x), by simpa using h3, fun q hq => ?_⟩
 rw [Array.getElem?_setIfInBounds]
 by_cases hqk : k = q
 ·subst hqk
  rw [if_pos rfl, if_pos (by omega), e k hq, if_pos rfl]
 ·rw [if_neg hqk, h4 q hq, e q hq, if_neg (fun e => hqk e.symm)]
/-- A matrix of one's own. -/
def MatB (base n : Nat) (bs : List Nat) (P : Nat → Nat → Bool) (v : Value) (W : World) : Prop :=
 W.ownsRow base 116 1 v bs.length (bs.map (rowV n)) ∧ bs.Nodup ∧ ∀ i b, bs[i]? = some b → RowB base n (P i) b W
theorem MatB.nb {base n b i : Nat} {bs : List Nat} {P : Nat → Nat → Bool} {v : Value} {W : World} (h : MatB base n bs P v W) (hb : bs[i]? = some b) : v.ownBlock ≠ some b := by
 obtain ⟨_, cs, h2, _⟩ := h.2.2 i b hb
 exact ne_row_blk h2 (by decide) h.1
theorem MatB.only {base n : Nat} {bs : List Nat} {P : Nat → Nat → Bool} {v : Value} {S : Nat → Prop} {W W' : World} (h : MatB base n bs P v W) (o : Only S W W') (h1 : ∀ g, v.ownBlock = some g → ¬ S g) (h2 : ∀ b ∈ bs, ¬ S b) : MatB base n bs P v W' :=
 ⟨own_only h.1 o h1, h.2.1, fun i b hb => (h.2.2 i b hb).only o (h2 b (List.mem_of_getElem? hb))⟩
theorem MatB.keep {base n : Nat} {bs : List Nat} {P : Nat → Nat → Bool} {v : Value} {W W' : World} (h : MatB base n bs P v W) (k : Kept W W') : MatB base n bs P v W' :=
 h.only (S := fun _ => False) (Only.of_kept k) (fun _ _ h => h) (fun _ _ h => h)
theorem MatB.view {base n : Nat} {bs : List Nat} {P : Nat → Nat → Bool} {v : Value} {W : World} (h : MatB base n bs P v W) (hl : bs.length = n) : MatV n P v W := by
 rcases h.1.2 with ⟨rfl, h0⟩ | ⟨g, cap, cur, rfl, hg1, hg2, hg3, hg4, hg5, hg6⟩
 ·rw [hl] at h0
  subst h0
  exact ⟨none, 0, rfl, Nat.le_refl _, Nat.zero_le _, fun i hi => by omega⟩
 ·refine ⟨some ⟨g, 0, none⟩, cap, by rw [hl], by omega, hg4, fun i hi => ?_⟩
  have hb : bs[i]? = some bs[i] := List.getElem?_eq_getElem (by omega)
  refine ⟨g, bs[i], rfl, ?_, fun k hk => (h.2.2 i _ hb).cell hk⟩
  have := h.1.cells (g := g) rfl i (rowV n bs[i]) (by rw [List.getElem?_map, hb]; rfl)
  rw [addr_plain] at this
  simpa [rowV] using this
theorem MatB.at {base n i : Nat} {bs : List Nat} {P : Nat → Nat → Bool} {v : Value} {W : World} (h : MatB base n bs P v W) (hl : bs.length = n) (hi : i < n) : ∃ g c b, v = .slice (some ⟨g, 0, none⟩) n c ∧ n ≤ c ∧ c ≤ maxLen ∧ bs[i]? = some b ∧ W.cell? ⟨g, i, none⟩ = some (.slice (some ⟨b, 0, none⟩) n n) ∧ RowB base n (P i) b W := by
 rcases h.1.2 with ⟨rfl, h0⟩ | ⟨g, cap, cur, rfl, hg1, hg2, hg3, hg4, hg5, hg6⟩
 ·omega
 ·have hb : bs[i]? = some bs[i] := List.getElem?_eq_getElem (by omega)
  refine ⟨g, cap, bs[i], by rw [hl], by omega, hg4, hb, ?_, h.2.2 i _ hb⟩
  have := h.1.cells (g := g) rfl i (rowV n bs[i]) (by rw [List.getElem?_map, hb]; rfl)
  rw [addr_plain] at this
  simpa [rowV] using this
theorem MatB.off {base n i k b : Nat} {bs : List Nat} {P : Nat → Nat → Bool} {v : Value} {W : World} (h : MatB base n bs P v W) (hb : bs[i]? = some b) (hk : k < n) : MatB base n bs (Tab.offM P i k) v (W.setCell ⟨b, k, none⟩ (.bool false)) := by
 have hO : Only (· = b) W (W.setCell ⟨b, k, none⟩ (.bool false)) := (Only.refl _ W).put k _
 refine ⟨own_only h.1 hO fun g hg e => h.nb hb (by rw [← e]; exact hg), h.2.1, fun j c hc => ?_⟩
 by_cases hj : j = i
 ·subst hj
  obtain rfl : b = c := by rw [hb] at hc; exact Option.some.inj hc
  refine (h.2.2 j b hb).set hk false fun q hq => ?_
  unfold Tab.offM
  by_cases hq : q = k <;> simp [hq]
 ·have hcb : ¬ c = b := by
   intro e
   subst e
   obtain ⟨h1, e1⟩ := List.getElem?_eq_some_iff.1 hc
   obtain ⟨h2, e2⟩ := List.getElem?_eq_some_iff.1 hb
   exact hj ((List.getElem_inj h.2.1).1 (e1.trans e2.symm))
  refine ((h.2.2 j c hc).only hO hcb).congr fun q hq => ?_
  unfold Tab.offM
  rw [if_neg (fun e => hj e.1)]
theorem MatB.push {base n b : Nat} {bs : List Nat} {v v' : Value} {W W1 W3 : World} (h : MatB base n bs (fun _ _ => true) v W) (hb : RowB base n (fun _ => true) b W) (hnb : b ∉ bs) (k : Kept W W1) (hgrow : W1.grownBy W3 v.ownBlock)
  (hown : W3.ownsRow base 116 1 v' (bs.length + 1) (bs.map (rowV n) ++ [rowV n b])) : MatB base n (bs ++ [b]) (fun _ _ => true) v' W3 := by
 have hr : ∀ c, RowB base n (fun _ => true) c W → RowB base n (fun _ => true) c W3 := by
  rintro c ⟨h1, cs, h2, h3⟩
  exact ⟨h1, cs, (h2.kept k).grownBy hgrow (ne_row_blk h2 (by decide) h.1), h3⟩
 refine ⟨by rw [List.length_append, List.map_append]; exact hown, ?_, fun i c hc => ?_⟩
 ·rw [List.nodup_append]
  exact ⟨h.2.1, by simp, fun x hx y hy e => by obtain rfl := List.mem_singleton.1 hy; subst e; exact hnb hx⟩
 ·rcases List.mem_append.1 (List.mem_of_getElem? hc) with hm | hm
  ·obtain ⟨j, hj⟩ := List.getElem?_of_mem hm
   exact hr c (h.2.2 j c hj)
  ·obtain rfl := List.mem_singleton.1 hm
   exact hr _ hb
theorem MatB.nil (base n : Nat) (P : Nat → Nat → Bool) (W : World) : MatB base n [] P (.slice none 0 0) W := ⟨World.ownsRow_nil _ _ _ _, List.nodup_nil, fun i b h => by simp at h⟩
theorem MatB.lt {base n : Nat} {bs : List Nat} {P : Nat → Nat → Bool} {v : Value} {W : World} (h : MatB base n bs P v W) : ∀ b ∈ bs, b < W.heap.size := by
 intro b hb
 obtain ⟨i, hi⟩ := List.getElem?_of_mem hb
 exact (h.2.2 i b hi).lt
theorem info_bo8 : (Tryz.prog.info? 4).map (fun i => (i.zero, i.size, i.bytes)) = some (some (.bool false), 1, 1) := by kernel_rfl
theorem info_br8 : (Tryz.prog.info? 116).map (fun i => (i.zero, i.size, i.bytes)) = some (some (.slice none 0 0), 1, 24) := by kernel_rfl
theorem RowB.made {base n b : Nat} {W : World} (h : W.ownsRow base 4 1 (.slice (some ⟨b, 0, none⟩) n n) n (madeCells (Value.bool false).cells (n * 1)).toList) : RowB base n (fun k => decide (k < 0)) b W := by
 rcases h.2 with ⟨h0, _⟩ | ⟨g, cap, cur, hv, h1, h2, h3, h4, h5, h6⟩
 ·cases h0
 ·cases hv
  refine ⟨h1, cur, h2, by omega, fun k hk => ?_⟩
  have e : cur.toList = (madeCells (Value.bool false).cells (n * 1)).toList := by
   rw [← h6, List.take_of_length_le (by simp; omega)]
  rw [← Array.getElem?_toList, e]
  simp [madeCells, Value.cells, hk, Nat.mod_one]
/-- A matrix of one's own, out of which nothing has been struck that is to stay. -/
def GrS (K : Nat → Nat → Prop) (n base : Nat) (w : World) (bs : List Nat) (v : Value) (P : Nat → Nat → Bool) (W : World) : Prop :=
 MatB base n bs P v W ∧ Kept w W ∧ Hid (∀ a b, a < n → b < n → K a b → P a b = true)
theorem GrS.keep {K : Nat → Nat → Prop} {n base : Nat} {w W W' : World} {bs : List Nat} {v : Value} {P : Nat → Nat → Bool} (h : GrS K n base w bs v P W) (k : Kept W W') : GrS K n base w bs v P W' := ⟨h.1.keep k, h.2.1.trans k, h.2.2⟩
theorem GrS.off {K : Nat → Nat → Prop} {n base : Nat} {w W : World} {bs : List Nat} {v : Value} {P : Nat → Nat → Bool} {i k b : Nat} (h : GrS K n base w bs v P W) (hw : w.heap.size = base) (hb : bs[i]? = some b) (hk : k < n) (hn : ¬ K i k) : GrS K n base w bs v (Tab.offM P i k) (W.setCell ⟨b, k, none⟩ (.bool false)) :=
 ⟨h.1.off hb hk, h.2.1.setCell (show w.heap.size ≤ b from hw ▸ (h.1.2.2 i b hb).1) _, Lib.hid (Tab.keep_off h.2.2.out hn)⟩
theorem src_rw8 (W : World) (n b : Nat) : Src Tryz.prog 1 85 (.slice (some ⟨W.heap.size, 0, none⟩) 1 1) 1 [rowV n b] (W.alloc (.cells #[.slice (some ⟨b, 0, none⟩) n n] 116)) := by
 refine Src.ofSlice _ Tryz.underlying85 ⟨W.heap.size, 0, none⟩ 1 1 [rowV n b] rfl ?_ ?_
 ·intro j v hv
  rw [addr_plain, (Blk.new W _ _).cell, Nat.zero_add]
  simpa [rowV] using hv
 ·intro v hv
  obtain rfl := List.mem_singleton.1 hv
  rfl
end Go.Proofs.YtjdkegfckkbpeaaGreatDoor
namespace Go.Proofs.YtjdkegfckkbpeaaGreatDoor
open Go.ChangeShapes Go.WideShapes Go.ChangeAt Go.RowKit
namespace Tab
theorem aryR_at {t : List C} {s : ByteArray} (g : Good t s) {x : Mb ByteArray} (hx : x ∈ mbs t s) : aryR t s x.name = some x.ar := by
 have hm : (x.name, x.ar) ∈ members t s := by rw [← mbs_told]; exact List.mem_map.2 ⟨x, hx, rfl⟩
 unfold aryR
 rw [find_nodup (fun y : ByteArray × Int => y.1) g.names hm]
 rfl
theorem aryR_no {t : List C} {s nm : ByteArray} (h : ∀ x ∈ mbs t s, ¬ x.name = nm) : aryR t s nm = none := by
 unfold aryR
 rw [find_no (fun y : ByteArray × Int => y.1)]
 ·rfl
 ·rintro ⟨y, hy, e⟩
  rw [← mbs_told] at hy
  obtain ⟨x, hx, rfl⟩ := List.mem_map.1 hy
  exact h x hx e
theorem fldR_at {t : List C} {s : ByteArray} (g : Good t s) {f : V} (hf : f ∈ fields t s) : fldR t s f.name = some f.typ := by
 unfold fldR
 rw [find_nodup V.name g.fn hf]
 rfl
theorem zip_types (R : ByteArray → ByteArray → Bool) (a b : ByteArray) : ∀ (l u : List V), l.length = u.length → (((l.map (·.typ) ++ [a]).zip (u.map (·.typ) ++ [b])).all fun q => R q.1 q.2) = (((l.zip u).all fun x => R x.1.typ x.2.typ) && R a b)
 | [], [], _ => by simp
 | x :: l, y :: u, h => by
  rw [List.map_cons, List.map_cons, List.cons_append, List.cons_append, List.zip_cons_cons, List.zip_cons_cons, List.all_cons, List.all_cons, zip_types R a b l u (by simpa using h), Bool.and_assoc]
 | [], _ :: _, h => by simp at h
 | _ :: _, [], h => by simp at h
/-- What members sees of a member. -/
inductive See8 (R : ByteArray → ByteArray → Bool) (t : List C) (s u : ByteArray) (m : Mb ByteArray) : Prop
 | no (h1 : aryR t s m.name ≠ some m.ar) (h2 : mokB R t s m = false)
 | fld (a b : ByteArray) (h0 : m.ar = -1) (h1 : aryR t s m.name = some m.ar) (h2 : fldR t s m.name = some a) (h3 : fldR t u m.name = some b) (h5 : mokB R t s m = R a b)
 | mth (p q : M) (o1 o2 : ByteArray) (h0 : m.ar = (q.params.length : Int)) (h1 : aryR t s m.name = some m.ar) (h3 : method t s m.name = some (p, o1)) (h4 : method t u m.name = some (q, o2)) (h5 : p.params.length = q.params.length)
   (h6 : mokB R t s m = (((p.params.zip q.params).all fun x => R x.1.typ x.2.typ) && R p.res q.res))
theorem see8 (R : ByteArray → ByteArray → Bool) {t : List C} (hv : Valid t) {s u : ByteArray} (hs : isC t s = true) (hu : isC t u = true) {m : Mb ByteArray} (hm : m ∈ mbs t u) : See8 R t s u m := by
 have gs := isC_good hv hs
 have gu := isC_good hv hu
 by_cases hx : ∃ x ∈ mbs t s, x.name = m.name
 ·obtain ⟨x, hx, hn⟩ := hx
  have h1 := aryR_at gs hx
  rw [hn] at h1
  by_cases ha : x.ar = m.ar
  ·have hal : alike x m = true := alike_iff.2 ⟨hn, ha⟩
   have hmk : mokB R t s m = (x.types.zip m.types).all fun q => R q.1 q.2 := by
    unfold mokB
    rw [any_one hx]
    ·show (alike x m && _) = _
     rw [hal, Bool.true_and]
    ·intro y hy e
     simp only [Bool.and_eq_true] at e ⊢
     have : y = x := mbs_unique hv hs hy hx (by rw [(alike_iff.1 e.1).1, hn])
     subst this
     exact e
   rw [ha] at h1
   unfold mbs at hm
   rcases List.mem_append.1 hm with hm | hm
   ·obtain ⟨f, hf, rfl⟩ := List.mem_map.1 hm
    have hx' := hx
    unfold mbs at hx'
    rcases List.mem_append.1 hx' with hgg | hgg
    ·obtain ⟨g, hg, rfl⟩ := List.mem_map.1 hgg
     have e1 : g.name = f.name := hn
     refine .fld g.typ f.typ rfl h1 ?_ (fldR_at gu hf) ?_
     ·show fldR t s f.name = _
      rw [← e1]
      exact fldR_at gs hg
     ·rw [hmk]
      simp [mbF]
    ·obtain ⟨g, hg, rfl⟩ := List.mem_map.1 hgg
     have e2 : (g.params.length : Int) = -1 := ha
     omega
   ·obtain ⟨q, hq, rfl⟩ := List.mem_map.1 hm
    have hx' := hx
    unfold mbs at hx'
    rcases List.mem_append.1 hx' with hgg | hgg
    ·obtain ⟨g, hg, rfl⟩ := List.mem_map.1 hgg
     have e2 : (-1 : Int) = (q.params.length : Int) := ha
     omega
    ·obtain ⟨p, hp, rfl⟩ := List.mem_map.1 hgg
     have e1 : p.name = q.name := hn
     have e2 : (p.params.length : Int) = (q.params.length : Int) := ha
     obtain ⟨j1, _, k1⟩ := gs.md p hp
     obtain ⟨j2, _, k2⟩ := gu.md q hq
     refine .mth p q (nth t j1).name (nth t j2).name rfl h1 ?_ k2 (by omega) ?_
     ·show method t s q.name = _
      rw [← e1]
      exact k1
     ·rw [hmk]
      exact zip_types R p.res q.res p.params q.params (by omega)
  ·refine .no (by rw [h1]; exact fun e => ha (Option.some.inj e)) ?_
   unfold mokB
   rw [List.any_eq_false]
   intro y hy e
   simp only [Bool.and_eq_true] at e
   have : y = x := mbs_unique hv hs hy hx (by rw [(alike_iff.1 e.1).1, hn])
   subst this
   exact ha (alike_iff.1 e.1).2
 ·refine .no (by rw [aryR_no fun x hx' e => hx ⟨x, hx', e⟩]; simp) ?_
  unfold mokB
  rw [List.any_eq_false]
  intro y hy e
  simp only [Bool.and_eq_true] at e
  exact hx ⟨y, hy, (alike_iff.1 e.1).1⟩
end Tab
set_option maxHeartbeats 4000000 in
theorem rhold8_c (t : List Tab.C) (a : Option Addr) (cp : Nat) (P : Nat → Nat → Bool) (v : Value) (s u : ByteArray) (w : World) (h : TabAt w (.slice a t.length cp) t) (hm : MatV t.length P v w) :
  Calls Tryz.prog 46 #[v, .slice a t.length cp, .string s, .string u] w fun e w' => e = .returned (.bool (Tab.hoP t P s u)) ∧ w' = w := by
 have HFs := rfind_c t (.slice a t.length cp) s w h
 have HFu := rfind_c t (.slice a t.length cp) u w h
 unfold FindPost at HFs HFu
 have HV := Lib.hid (show Tab.hoP t P s u = (decide (s = u) || decide (u = ⟨#[63]⟩) || (match Tab.ix Tab.C.name t s, Tab.ix Tab.C.name t u with
  | some i, some k => P i k
  | _, _ => false)) from rfl)
 have HIs := Lib.hid (fun i (e : Tab.ix Tab.C.name t s = some i) => (Tab.ix_lt e).1)
 have HIu := Lib.hid (fun i (e : Tab.ix Tab.C.name t u = some i) => (Tab.ix_lt e).1)
 have ht : t.length ≤ maxLen := by obtain ⟨_, _, e, h1, h2, _⟩ := h; exact Nat.le_trans h1 h2
 unfold maxLen at ht
 generalize Tab.hoP t P s u = ans at HV ⊢
 obtain ⟨ma, mc, rfl, m1, m2, m3⟩ := hm
 unfold maxLen at m2
 have HM := Lib.hid m3
 clear h m3
 by_cases hsu : s = u
 ·have hb := beq_yes hsu
  obtain rfl : ans = true := by rw [HV.out, decide_eq_true hsu]; rfl
  have H1 := Lib.hid HFs
  have H2 := Lib.hid HFu
  clear HFs HFu hsu
  go_enter Tryz.func46, Tryz.ntmps46
  go_wp2_with fail
  go_ret
  exact ⟨rfl, rfl⟩
 ·have hb := beq_no hsu
  by_cases hd : u = ⟨#[63]⟩
  ·have hq : (u.toList == ([63] : List UInt8)) = true := by have := beq_yes hd; rwa [show (⟨#[63]⟩ : ByteArray).toList = [63] by kernel_rfl] at this
   obtain rfl : ans = true := by rw [HV.out, decide_eq_true hd]; simp
   have H1 := Lib.hid HFs
   have H2 := Lib.hid HFu
   clear HFs HFu hsu hd
   go_enter Tryz.func46, Tryz.ntmps46
   go_wp2_with fail
   go_ret
   exact ⟨rfl, rfl⟩
  ·have hq : (u.toList == ([63] : List UInt8)) = false := by have := beq_no hd; rwa [show (⟨#[63]⟩ : ByteArray).toList = [63] by kernel_rfl] at this
   have HV2 := Lib.hid (show ans = (match Tab.ix Tab.C.name t s, Tab.ix Tab.C.name t u with
    | some i, some k => P i k
    | _, _ => false) by rw [HV.out, decide_eq_false hsu, decide_eq_false hd]; rfl)
   clear hsu hd HV
   cases hi : Tab.ix Tab.C.name t s with
   | none =>
    obtain rfl : ans = false := by rw [HV2.out, hi]
    rw [hi] at HFs
    simp only [Option.isSome_none] at HFs
    have H1 := Lib.hid HFs
    have H2 := Lib.hid HFu
    generalize Tab.num none = z1 at H1
    generalize Tab.num (Tab.ix Tab.C.name t u) = z2 at H2
    generalize (Tab.ix Tab.C.name t u).isSome = y2 at H2
    clear HFs HFu hi
    go_enter Tryz.func46, Tryz.ntmps46
    go_wp2_with fail
    refine H1.out.mono ?_
    rintro e w1 ⟨rfl, rfl⟩
    go_wp2_with fail
    refine H2.out.mono ?_
    rintro e w2 ⟨rfl, rfl⟩
    go_wp2_with fail
    go_ret
    exact ⟨rfl, rfl⟩
   | some i =>
    have hil := HIs.out i hi
    rw [hi] at HFs
    simp only [Option.isSome_some, Tab.num] at HFs
    have H1 := Lib.hid HFs
    cases hk : Tab.ix Tab.C.name t u with
    | none =>
     obtain rfl : ans = false := by rw [HV2.out, hi, hk]
     rw [hk] at HFu
     simp only [Option.isSome_none] at HFu
     have H2 := Lib.hid HFu
     generalize Tab.num none = z2 at H2
     clear HFs HFu hi hk
     go_enter Tryz.func46, Tryz.ntmps46
     go_wp2_with fail
     refine H1.out.mono ?_
     rintro e w1 ⟨rfl, rfl⟩
     go_wp2_with fail
     refine H2.out.mono ?_
     rintro e w2 ⟨rfl, rfl⟩
     go_wp2_with fail
     go_ret
     exact ⟨rfl, rfl⟩
    | some k =>
     have hkl := HIu.out k hk
     have HA := Lib.hid (show ans = P i k by rw [HV2.out, hi, hk])
     rw [hk] at HFu
     simp only [Option.isSome_some, Tab.num] at HFu
     have H2 := Lib.hid HFu
     obtain ⟨b, rb, rfl, c1, c2⟩ := HM.out i hil
     have c3 := c2 k hkl
     have hiI : (i : Int) < (t.length : Int) := by omega
     have hkI : (k : Int) < (t.length : Int) := by omega
     generalize t.length = n at *
     generalize P i k = pik at c3 HA
     clear HFs HFu hi hk HV2 c2 HM HIs HIu
     go_enter Tryz.func46, Tryz.ntmps46
     go_wp2_with fail
     refine H1.out.mono ?_
     rintro e w1 ⟨rfl, rfl⟩
     go_wp2_with fail
     refine H2.out.mono ?_
     rintro e w2 ⟨rfl, rfl⟩
     go_wp2_with fail
     go_ret
     exact ⟨by rw [HA.out]; rfl, rfl⟩
end Go.Proofs.YtjdkegfckkbpeaaGreatDoor
