/- The document's own answers about tables (chaperonref05): Methods. The document's own answers about tables (chaperonref05): Members, Arity, Field. -/
import Derived.Test.YthooiofaicdhgaaGreatDoorRfc
import Derived.Test.YthooiofaicdhgaaGreatDoorCpt
import Derived.Deep.RegionHeld3
import Derived.StillTactics
set_option linter.unusedSimpArgs false
set_option linter.unusedVariables false
set_option maxRecDepth 100000
namespace Go.Proofs.YthooiofaicdhgaaGreatDoor
open Go.ChangeShapes Go.WideShapes Go.ChangeAt Go.RowKit

theorem addq_set {qs : List (Tab.M × Value)} {m : Tab.M} {pv : Value} {k : Nat} (h : Tab.ix Tab.M.name (qs.map Prod.fst) m.name = some k) : (qs.set k (m, pv)).map Prod.fst = Tab.addM (qs.map Prod.fst) m := by
  unfold Tab.addM
  rw [h, List.map_set]
theorem addq_new {qs : List (Tab.M × Value)} {m : Tab.M} {pv : Value} (h : Tab.ix Tab.M.name (qs.map Prod.fst) m.name = none) : (qs ++ [(m, pv)]).map Prod.fst = Tab.addM (qs.map Prod.fst) m := by
  unfold Tab.addM
  rw [h, List.map_append]
  rfl
theorem addM_le (l : List Tab.M) (m : Tab.M) : (Tab.addM l m).length ≤ l.length + 1 := by
  unfold Tab.addM
  split
  · rw [List.length_set]; omega
  · simp
theorem foldA_le : ∀ (ms l : List Tab.M), (ms.foldl Tab.addM l).length ≤ l.length + ms.length
  | [], l => by simp
  | m :: ms, l => by
    have h1 := foldA_le ms (Tab.addM l m)
    have h2 := addM_le l m
    simp only [List.foldl_cons, List.length_cons]
    omega

def mthsR (t : List Tab.C) (L : List Nat) (j : Nat) : List Tab.M := (L.reverse.take j).flatMap fun i => (Tab.nth t i).methods
theorem mthsR_next {t : List Tab.C} {L : List Nat} {i n j p : Nat} (hn : L.length = n) (hi : i + j + 1 = n) (hp : L[i]? = some p) : mthsR t L (j + 1) = mthsR t L j ++ (Tab.nth t p).methods := by
  unfold mthsR
  have : L.reverse[j]? = some p := by
    rw [List.getElem?_reverse (by omega), ← hp]
    congr 1
    omega
  rw [List.take_add_one, this]
  simp

/-- The methods so far, in a row of one's own; their parameters' rows lie in the table. -/
def MsR (w0 w1 : World) (ms : List Tab.M) (qs : List (Tab.M × Value)) (v : Value) (W : World) : Prop :=
  W.ownsRow w1.heap.size 53 3 v qs.length (qs.flatMap mCells) ∧ qs.map Prod.fst = ms ∧ (∀ y ∈ qs, Row 2 VarAt w0 y.2 y.1.params) ∧ Kept w1 W
theorem MsR.keep {w0 w1 : World} {ms : List Tab.M} {qs : List (Tab.M × Value)} {v : Value} {W W' : World} (h : MsR w0 w1 ms qs v W) (k : Kept W W') : MsR w0 w1 ms qs v W' :=
  ⟨owns_only (S := fun _ => False) h.1 (Only.of_kept k) (fun _ _ h => h), h.2.1, h.2.2.1, h.2.2.2.trans k⟩
def MthO (t : List Tab.C) (L : List Nat) (w0 w1 : World) (v q : Value) (W : World) : Prop :=
  ∃ (j : Nat) (qs : List (Tab.M × Value)), j ≤ L.length ∧ q = .int .i64 ((L.length : Int) - 1 - j) ∧ MsR w0 w1 ((mthsR t L j).foldl Tab.addM []) qs v W
def MthK (ms base : List Tab.M) (w0 w1 : World) (v q : Value) (W : World) : Prop :=
  ∃ (k : Nat) (qs : List (Tab.M × Value)), k ≤ ms.length ∧ q = .int .i64 k ∧ MsR w0 w1 ((ms.take k).foldl Tab.addM base) qs v W

theorem MsR.set {w0 w1 W : World} {ms : List Tab.M} {qs : List (Tab.M × Value)} {g n c k : Nat} {m : Tab.M} {pv : Value} (h : MsR w0 w1 ms qs (.slice (some ⟨g, 0, none⟩) n c) W) (hix : Tab.ix Tab.M.name ms m.name = some k) (hp : Row 2 VarAt w0 pv m.params) :
    MsR w0 w1 (Tab.addM ms m) (qs.set k (m, pv)) (.slice (some ⟨g, 0, none⟩) n c) (((W.setCell ⟨g, k * 3, none⟩ (.string m.name)).setCell ⟨g, k * 3 + 1, none⟩ pv).setCell ⟨g, k * 3 + 2, none⟩ (.string m.res)) := by
  obtain ⟨h1, h2, h3, h4⟩ := h
  have hn : n = qs.length := by
    rcases h1.2 with ⟨e, _⟩ | ⟨_, _, _, e, _⟩
    · cases e
    · injection e
  subst hn
  have hk : k < qs.length := by
    obtain ⟨hl, _⟩ := Tab.ix_lt hix
    rw [← h2, List.length_map] at hl
    exact hl
  have hg := (own_geC h1 (g := g) rfl).1
  refine ⟨?_, ?_, ?_, ((h4.setCell hg _).setCell hg _).setCell hg _⟩
  · have r := owns_set (owns_set (owns_set h1 (i := k * 3) (by omega) (.string m.name)) (i := k * 3 + 1) (by omega) pv) (i := k * 3 + 2) (by omega) (.string m.res)
    rw [flat_set mCells mCells_len (y := (m, pv)) rfl qs k hk] at r
    rw [List.length_set]
    exact r
  · rw [addq_set (by rw [h2]; exact hix), h2]
  · intro y hy
    rcases List.mem_or_eq_of_mem_set hy with hy | rfl
    · exact h3 y hy
    · exact hp

theorem own_frz {w : World} {base k n m c g : Nat} {e : TypeId} {xs : List Value} (h : w.ownsRow base e k (.slice (some ⟨g, 0, none⟩) n c) m xs) (j : Nat) : w.frozen? ⟨g, j, none⟩ = false := by
  rcases h.2 with ⟨h0, _⟩ | ⟨g', cap, cur, hv, h1, h2, _⟩
  · cases h0
  · cases hv
    exact (show Blk w g e cur from h2).frozen j

set_option maxHeartbeats 16000000 in
theorem rmethods_c (t : List Tab.C) (a : Option Addr) (cp : Nat) (s : ByteArray) (w0 w : World) (hw : Kept w0 w) (h : TabAt w0 (.slice a t.length cp) t) (hS : Small t) :
    Calls Tryz.prog 180 #[.slice a t.length cp, .string s] w fun e w' => ∃ v qs, e = .returned v ∧ MsR w0 w (Tab.methods t s) qs v w' := by
  obtain ⟨i0, hi, hz0, hzz1, hzz2⟩ := info_parts info_sig
  have hfd : ∀ (n s : ByteArray) (fv : Value) (ma : Option Addr) (mn mc : Nat) (w : World), (Instr.field 46 (.agg #[.string n, .string s, fv, .slice ma mn mc]) 3).run Tryz.prog w = .ok (.slice ma mn mc) w := fun _ _ _ _ _ _ _ => by kernel_rfl
  have HS := Lib.hid (rsupers_c t a cp s w (tab_kept h hw) hS.len)
  have HRC := Lib.hid (fun (nm : ByteArray) (i : Nat) (W : World) (k : Kept w0 W) (e : Tab.ix Tab.C.name t nm = some i) => rclass_k t a cp nm i w0 W h k e)
  have HSM := Lib.hid hS
  have HW := Lib.hid hw
  have ht := hS.len
  clear h hS hw
  go_enter Tryz.func180, Tryz.ntmps180
  go_wp2_with fail
  refine HS.out.mono ?_
  rintro e w1 ⟨v1, rfl, hr1, k1⟩
  have HK1 := Lib.hid k1
  obtain ⟨L, hL⟩ : ∃ L, Tab.line t s = L := ⟨_, rfl⟩
  have hix := lineF_ix t (t.length + 1) [] s
  rw [show Tab.lineF t (t.length + 1) [] s = L from hL] at hix
  have HIX := Lib.hid hix
  have hll : L.length ≤ t.length := by rw [← hL]; exact Tab.line_short t s
  have hfs : Tab.methods t s = (mthsR t L L.length).foldl Tab.addM [] := by
    unfold Tab.methods mthsR
    rw [hL, List.take_of_length_le (by simp)]
  have hsu : Tab.supers t s = nmsOf t L := by unfold Tab.supers nmsOf; rw [hL]
  have hnl : (nmsOf t L).length = L.length := by unfold nmsOf; simp
  rw [hsu] at hr1
  have hrow := owns_txt hr1
  rw [hnl] at hr1
  obtain ⟨la, lc, rfl⟩ := owns_slice_n hr1
  obtain ⟨_, _, e, m1, m2, m3⟩ := hrow
  injection e with e1 _ e3
  subst e1 e3
  rw [hnl] at m1
  unfold maxLen at m2
  have HRO := Lib.hid m3
  have HFS := Lib.hid hfs
  obtain ⟨n, hn⟩ : ∃ n, L.length = n := ⟨_, rfl⟩
  have HN := Lib.hid hn
  rw [hn] at hll m1 ⊢
  clear hr1 k1 hix hfs hsu hnl m3 hL HS hn
  go_wp2_with fail
  go_loopw [5, 7] (fun v q wr => MthO t L w0 w1 v q wr) (fun v q wr => (intOf q + 1).toNat)
  case atStart => exact ⟨0, [], Nat.zero_le _, by rw [HN.out]; go_num, World.ownsRow_nil _ _ _ _, rfl, (fun y hy => by cases hy), Kept.refl _⟩
  case round =>
    obtain ⟨j, qs, hj, rfl, hM⟩ := hrel
    have HMO := Lib.hid hM
    rw [HN.out] at hj
    obtain ⟨va, vn, vc, rfl⟩ := owns_slice hM.1
    by_cases hlt : j < n
    · obtain ⟨i, hin⟩ : ∃ i, i + j + 1 = n := ⟨n - 1 - j, by omega⟩
      rw [show ((L.length : Int) - 1 - j) = (i : Int) by rw [HN.out]; omega]
      have hi0 : (0 : Int) ≤ (i : Int) := by omega
      have hi1 : (i : Int) < (n : Int) := by omega
      have hiL : i < L.length := by rw [HN.out]; omega
      have hp : L[i]? = some L[i] := List.getElem?_eq_getElem hiL
      generalize L[i] = p at hp
      have hn : (nmsOf t L)[i]? = some (Tab.nth t p).name := by unfold nmsOf; rw [List.getElem?_map, hp]; rfl
      obtain ⟨lb, lo, rfl, hcl⟩ := HRO.out _ _ hn
      have hc0 : w1.cell? ⟨lb, lo + i, none⟩ = some (.string (Tab.nth t p).name) := by simpa [TxtS] using hcl
      have c0 := hM.2.2.2.cell hc0
      have HC := Lib.hid (HRC.out (Tab.nth t p).name p wr (HW.out.trans (HK1.out.trans hM.2.2.2)) (HIX.out p (List.mem_of_getElem? hp)).2)
      have HX := Lib.hid (mthsR_next (t := t) HN.out hin hp)
      have hpt := (HIX.out p (List.mem_of_getElem? hp)).1
      have HFL := Lib.hid (HSM.out.methods _ (nth_mem hpt))
      have HFB := Lib.hid (show (mthsR t L j).length ≤ 1000 * 1000 by
        refine Nat.le_trans (flatR_le (fun i => (Tab.nth t i).methods) 1000 (L.reverse.take j) fun i hi => ?_) ?_
        · exact HSM.out.methods _ (nth_mem (HIX.out i (List.mem_reverse.1 (List.mem_of_mem_take hi))).1)
        · have := HN.out
          have hlen : (L.reverse.take j).length ≤ 1000 := by simp; omega
          exact Nat.mul_le_mul_left _ hlen)
      generalize (Tab.nth t p).name = pn at c0 HC
      have HQ := Lib.hid (show (L.length : Int) - 1 - ((j + 1 : Nat) : Int) = (i : Int) - 1 by rw [HN.out]; omega)
      have HJ := Lib.hid (show j + 1 ≤ L.length by rw [HN.out]; omega)
      clear hp hn hcl hc0 hpt hin hlt hiL hj hM
      go_wp2_with fail
      refine HC.out.mono ?_
      rintro e w2 ⟨⟨fv, mv, rfl, hf, hm⟩, k2⟩
      obtain ⟨fa, fc, rfl, _⟩ := id hf
      obtain ⟨base, hbase⟩ : ∃ b, (mthsR t L j).foldl Tab.addM [] = b := ⟨_, rfl⟩
      have HBL := Lib.hid (show base.length ≤ 1000 * 1000 by rw [← hbase]; have := foldA_le (mthsR t L j) []; have := HFB.out; simp at *; omega)
      rw [hbase] at HMO
      have HM2 := Lib.hid (HMO.out.keep k2)
      have HXB := Lib.hid (show (mthsR t L (j + 1)).foldl Tab.addM [] = (Tab.nth t p).methods.foldl Tab.addM base by rw [HX.out, List.foldl_append, hbase])
      clear hf k2 HC c0 HX hbase HFB HMO
      obtain ⟨ms, hms⟩ : ∃ ms, (Tab.nth t p).methods = ms := ⟨_, rfl⟩
      rw [hms] at HFL HXB hm
      obtain ⟨ma, mc, rfl, y1, y2, y3⟩ := hm
      unfold maxLen at y2
      have HMR := Lib.hid y3
      have hml := HFL.out
      clear hms y3
      go_wp2_with fail
      go_loopw [5, 9] (fun v q wr => MthK ms base w0 w1 v q wr) (fun v q wr => ms.length - (intOf q).toNat)
      case atStart => exact ⟨0, qs, Nat.zero_le _, rfl, HM2.out⟩
      case round =>
        obtain ⟨k, qk, hk, rfl, hMk⟩ := hrel
        have HMK := Lib.hid hMk
        obtain ⟨ka, kc, rfl⟩ := owns_slice_n hMk.1
        obtain ⟨wo, rfl⟩ : ∃ wo, wo = wr := ⟨_, rfl⟩
        by_cases hlk : k < ms.length
        · have hlkI : (k : Int) < (ms.length : Int) := by omega
          have hx : ms[k]? = some ms[k] := List.getElem?_eq_getElem hlk
          obtain ⟨xb, xo, rfl, xc⟩ := HMR.out _ _ hx
          have HTK := Lib.hid (show (ms.take (k + 1)).foldl Tab.addM base = Tab.addM ((ms.take k).foldl Tab.addM base) ms[k] by rw [List.take_add_one, hx, List.foldl_append]; rfl)
          generalize ms[k] = m at hx xc HTK
          obtain ⟨x0, ⟨pv, x1, prow⟩, x2, z0, z2⟩ := xc
          have HPR := Lib.hid prow
          obtain ⟨pa, pc, rfl, _⟩ := prow
          generalize hpn : m.params.length = pn2 at x1 HPR
          have hqb : qk.length ≤ 1002000 := by
            have e := hMk.2.1
            have h1 := foldA_le (ms.take k) base
            have h2 : qk.length = ((ms.take k).foldl Tab.addM base).length := by rw [← e, List.length_map]
            have h3 := HBL.out
            have h4 : (ms.take k).length ≤ ms.length := by simp; omega
            omega
          have HQB := Lib.hid hqb
          obtain ⟨cur, hcur⟩ : ∃ cur, (ms.take k).foldl Tab.addM base = cur := ⟨_, rfl⟩
          rw [hcur] at HMK HTK
          have HX0 := Lib.hid x0
          have HX1 := Lib.hid x1
          have HX2 := Lib.hid x2
          clear hMk hx hcur hpn x0 x1 x2 hqb
          go_wp2_with fail
          go_loopw [10] (fun q wr => ∃ z : Nat, z ≤ qk.length ∧ q = .int .i64 z ∧ (∀ y ∈ cur.take z, ¬ y.name = m.name) ∧ Kept wo wr) (fun q wr => qk.length - (intOf q).toNat)
          case atStart => exact ⟨0, Nat.zero_le _, rfl, (fun y hy => by simp at hy), Kept.refl _⟩
          case round =>
            obtain ⟨z, hz, rfl, hno, hkz⟩ := hrel
            have HNO := Lib.hid hno
            have HMZ := Lib.hid (HMK.out.keep hkz)
            have HKZ := Lib.hid hkz
            have HKT := Lib.hid (HW.out.trans (HK1.out.trans HMZ.out.2.2.2))
            have b0 := HKT.out.cell HX0.out
            have b1 := HKT.out.cell HX1.out
            have b2 := HKT.out.cell HX2.out
            clear hno hkz
            by_cases hlz : z < qk.length
            · have hlzI : (z : Int) < (qk.length : Int) := by omega
              obtain ⟨g, rfl, _⟩ := row_cells HMZ.out.1 (by omega)
              have hy : qk[z]? = some qk[z] := List.getElem?_eq_getElem hlz
              obtain ⟨d0, d1, d2⟩ := sig_cells HMZ.out.1 hy
              have hyc : cur[z]? = some qk[z].1 := by rw [← HMZ.out.2.1, List.getElem?_map, hy]; rfl
              generalize qk[z] = y at hy d0 d1 d2 hyc
              have HY := Lib.hid hyc
              clear hy hyc
              by_cases hn : y.1.name = m.name
              · have hnb := beq_yes hn
                have hnb2 : (y.1.name.toList != m.name.toList) = false := by show (!(y.1.name.toList == m.name.toList)) = false; rw [hnb]; rfl
                have HIX2 := Lib.hid (Tab.ix_some HY.out hn HNO.out)
                have HSE := Lib.hid (MsR.set (HMZ.out.keep (Kept.refl wr).drew) HIX2.out HPR.out)
                have HFZ := Lib.hid (fun j => own_frz HMZ.out.1 j)
                clear hn
                go_wp2_with fail
                go_still (by kernel_rfl)
                have d0' : wr.drew.cell? ⟨g, z * 3, none⟩ = some (.string y.1.name) := d0
                have d1' : wr.drew.cell? ⟨g, z * 3 + 1, none⟩ = some y.2 := d1
                have d2' : wr.drew.cell? ⟨g, z * 3 + 2, none⟩ = some (.string y.1.res) := d2
                have f0 : wr.drew.frozen? ⟨g, z * 3, none⟩ = false := HFZ.out _
                have f1 : wr.drew.frozen? ⟨g, z * 3 + 1, none⟩ = false := HFZ.out _
                have f2 : wr.drew.frozen? ⟨g, z * 3 + 2, none⟩ = false := HFZ.out _
                have b0' := (Kept.refl wr).drew.cell b0
                have b1' := (Kept.refl wr).drew.cell b1
                have b2' := (Kept.refl wr).drew.cell b2
                have g0 : wr.frozen? ⟨g, z * 3, none⟩ = false := HFZ.out _
                have g1 : wr.frozen? ⟨g, z * 3 + 1, none⟩ = false := HFZ.out _
                have g2 : wr.frozen? ⟨g, z * 3 + 2, none⟩ = false := HFZ.out _
                go_wp2_with fail
                go_roundw
                case rel => exact ⟨k + 1, _, by omega, by go_num, by rw [HTK.out]; exact HSE.out⟩
                case measure => simp [intOf]; omega
              · have hnb := beq_no hn
                have hnb2 : (y.1.name.toList != m.name.toList) = true := by show (!(y.1.name.toList == m.name.toList)) = true; rw [hnb]; rfl
                have hqb2 := HQB.out
                have HM := Lib.hid (take_not HNO.out HY.out hn)
                clear hn d1 d2 b1 b2
                go_wp2_with fail
                go_still (by kernel_rfl)
                go_wp2_with fail
                go_roundw
                case rel => exact ⟨z + 1, by omega, by go_num, HM.out, HKZ.out.drew⟩
                case measure => simp [intOf]; omega
            · have hlzI : ¬ (z : Int) < (qk.length : Int) := by omega
              have HIX2 := Lib.hid (Tab.ix_none (nm := Tab.M.name) (l := cur) (s := m.name) (by have := HNO.out; rwa [List.take_of_length_le (by rw [← HMZ.out.2.1, List.length_map]; omega)] at this))
              have HRX := Lib.hid (owns_only (S := fun _ => False) HMZ.out.1 ((Only.refl _ wr).drew.alloc (.cells #[.string m.name, .slice pa pn2 pc, .string m.res] 53)) (fun _ _ h => h))
              have HSX := Lib.hid (src_sig wr.drew wr.heap.size rfl m.name m.res pa pn2 pc)
              have HKD := Lib.hid (HMZ.out.2.2.2.drew.alloc (.cells #[.string m.name, .slice pa pn2 pc, .string m.res] 53))
              have HGE := Lib.hid (fun q (e : (Value.slice ka qk.length kc).ownBlock = some q) => rown_ge HMZ.out.1 e)
              have hsz := HMZ.out.2.2.2.size
              have hqb2 := HQB.out
              go_wp2_with fail
              refine wp_region_held_drew (S := (fun W => W = wr.drew)) (by kernel_rfl) rfl (fun hHeld0 => ?_)
              refine wpAnyH_take (i := 0) (v := ?_) rfl (by kernel_rfl) (by kernel_rfl) (by kernel_rfl) (fun _ _ _ h => h) (Or.inl ⟨by kernel_rfl, ?_⟩) (by assumption) ?_
              rotate_left
              · intro w hSw; (try dsimp only at hSw); go_simp; (try with_reducible rfl)
              (try simp only [Act.put, List.getElem_toArray, List.getElem_cons_zero, List.getElem_cons_succ, List.setIfInBounds_toArray, List.set_cons_zero, List.set_cons_succ])
              refine wpAnyH_take (i := 1) (v := ?_) rfl (by kernel_rfl) (by kernel_rfl) (by kernel_rfl) (fun _ _ _ h => h) (Or.inl ⟨by kernel_rfl, ?_⟩) (by assumption) ?_
              rotate_left
              · intro w hSw; (try dsimp only at hSw); go_simp; (try with_reducible rfl)
              (try simp only [Act.put, List.getElem_toArray, List.getElem_cons_zero, List.getElem_cons_succ, List.setIfInBounds_toArray, List.set_cons_zero, List.set_cons_succ])
              refine wpAnyH_take (i := 2) (v := ?_) rfl (by kernel_rfl) (by kernel_rfl) (by kernel_rfl) (fun _ _ _ h => h) (Or.inl ⟨by kernel_rfl, ?_⟩) (by assumption) ?_
              rotate_left
              · intro w hSw; (try dsimp only at hSw); go_simp; (try with_reducible rfl)
              (try simp only [Act.put, List.getElem_toArray, List.getElem_cons_zero, List.getElem_cons_succ, List.setIfInBounds_toArray, List.set_cons_zero, List.set_cons_succ])
              refine wpAnyH_take (i := 3) (v := ?_) rfl (by kernel_rfl) (by kernel_rfl) (by kernel_rfl) (fun _ _ _ h => h) (Or.inl ⟨by kernel_rfl, ?_⟩) (by assumption) ?_
              rotate_left
              · intro w hSw; (try dsimp only at hSw); go_simp; (try with_reducible rfl)
              (try simp only [Act.put, List.getElem_toArray, List.getElem_cons_zero, List.getElem_cons_succ, List.setIfInBounds_toArray, List.set_cons_zero, List.set_cons_succ])
              refine wpAnyH_take (i := 4) (v := ?_) rfl (by kernel_rfl) (by kernel_rfl) (by kernel_rfl) (fun _ _ _ h => h) (Or.inl ⟨by kernel_rfl, ?_⟩) (by assumption) ?_
              rotate_left
              · intro w hSw; (try dsimp only at hSw); go_simp; (try with_reducible rfl)
              (try simp only [Act.put, List.getElem_toArray, List.getElem_cons_zero, List.getElem_cons_succ, List.setIfInBounds_toArray, List.set_cons_zero, List.set_cons_succ])
              refine wpAnyH_take (i := 5) (v := undef) rfl (by kernel_rfl) (by kernel_rfl) (by kernel_rfl) (fun _ _ _ h => h) (Or.inr ⟨by kernel_rfl, rfl⟩) (by assumption) ?_
              (try simp only [Act.put, List.getElem_toArray, List.getElem_cons_zero, List.getElem_cons_succ, List.setIfInBounds_toArray, List.set_cons_zero, List.set_cons_succ])
              refine wpAnyH_take (i := 6) (v := undef) rfl (by kernel_rfl) (by kernel_rfl) (by kernel_rfl) (fun _ _ _ h => h) (Or.inr ⟨by kernel_rfl, rfl⟩) (by assumption) ?_
              (try simp only [Act.put, List.getElem_toArray, List.getElem_cons_zero, List.getElem_cons_succ, List.setIfInBounds_toArray, List.set_cons_zero, List.set_cons_succ])
              refine wpAnyH_take (i := 7) (v := undef) rfl (by kernel_rfl) (by kernel_rfl) (by kernel_rfl) (fun _ _ _ h => h) (Or.inr ⟨by kernel_rfl, rfl⟩) (by assumption) ?_
              (try simp only [Act.put, List.getElem_toArray, List.getElem_cons_zero, List.getElem_cons_succ, List.setIfInBounds_toArray, List.set_cons_zero, List.set_cons_succ])
              refine wpAnyH_take (i := 8) (v := undef) rfl (by kernel_rfl) (by kernel_rfl) (by kernel_rfl) (fun _ _ _ h => h) (Or.inr ⟨by kernel_rfl, rfl⟩) (by assumption) ?_
              (try simp only [Act.put, List.getElem_toArray, List.getElem_cons_zero, List.getElem_cons_succ, List.setIfInBounds_toArray, List.set_cons_zero, List.set_cons_succ])
              refine wpAnyH_take (i := 9) (v := undef) rfl (by kernel_rfl) (by kernel_rfl) (by kernel_rfl) (fun _ _ _ h => h) (Or.inr ⟨by kernel_rfl, rfl⟩) (by assumption) ?_
              (try simp only [Act.put, List.getElem_toArray, List.getElem_cons_zero, List.getElem_cons_succ, List.setIfInBounds_toArray, List.set_cons_zero, List.set_cons_succ])
              refine wpAnyH_take (i := 10) (v := undef) rfl (by kernel_rfl) (by kernel_rfl) (by kernel_rfl) (fun _ _ _ h => h) (Or.inr ⟨by kernel_rfl, rfl⟩) (by assumption) ?_
              (try simp only [Act.put, List.getElem_toArray, List.getElem_cons_zero, List.getElem_cons_succ, List.setIfInBounds_toArray, List.set_cons_zero, List.set_cons_succ])
              refine wpAnyH_take (i := 11) (v := undef) rfl (by kernel_rfl) (by kernel_rfl) (by kernel_rfl) (fun _ _ _ h => h) (Or.inr ⟨by kernel_rfl, rfl⟩) (by assumption) ?_
              (try simp only [Act.put, List.getElem_toArray, List.getElem_cons_zero, List.getElem_cons_succ, List.setIfInBounds_toArray, List.set_cons_zero, List.set_cons_succ])
              refine wpAnyH_take (i := 12) (v := undef) rfl (by kernel_rfl) (by kernel_rfl) (by kernel_rfl) (fun _ _ _ h => h) (Or.inr ⟨by kernel_rfl, rfl⟩) (by assumption) ?_
              (try simp only [Act.put, List.getElem_toArray, List.getElem_cons_zero, List.getElem_cons_succ, List.setIfInBounds_toArray, List.set_cons_zero, List.set_cons_succ])
              refine wpAnyH_take (i := 13) (v := undef) rfl (by kernel_rfl) (by kernel_rfl) (by kernel_rfl) (fun _ _ _ h => h) (Or.inr ⟨by kernel_rfl, rfl⟩) (by assumption) ?_
              (try simp only [Act.put, List.getElem_toArray, List.getElem_cons_zero, List.getElem_cons_succ, List.setIfInBounds_toArray, List.set_cons_zero, List.set_cons_succ])
              refine wpAnyH_take (i := 14) (v := undef) rfl (by kernel_rfl) (by kernel_rfl) (by kernel_rfl) (fun _ _ _ h => h) (Or.inr ⟨by kernel_rfl, rfl⟩) (by assumption) ?_
              (try simp only [Act.put, List.getElem_toArray, List.getElem_cons_zero, List.getElem_cons_succ, List.setIfInBounds_toArray, List.set_cons_zero, List.set_cons_succ])
              refine wpAnyH_take (i := 15) (v := undef) rfl (by kernel_rfl) (by kernel_rfl) (by kernel_rfl) (fun _ _ _ h => h) (Or.inr ⟨by kernel_rfl, rfl⟩) (by assumption) ?_
              (try simp only [Act.put, List.getElem_toArray, List.getElem_cons_zero, List.getElem_cons_succ, List.setIfInBounds_toArray, List.set_cons_zero, List.set_cons_succ])
              refine wpAnyH_take (i := 16) (v := ?_) rfl (by kernel_rfl) (by kernel_rfl) (by kernel_rfl) (fun _ _ _ h => h) (Or.inl ⟨by kernel_rfl, ?_⟩) (by assumption) ?_
              rotate_left
              · intro w hSw; (try dsimp only at hSw); go_simp; (try with_reducible rfl)
              (try simp only [Act.put, List.getElem_toArray, List.getElem_cons_zero, List.getElem_cons_succ, List.setIfInBounds_toArray, List.set_cons_zero, List.set_cons_succ])
              refine wpAnyH_done (by kernel_rfl) ?_ _
              clear hHeld0
              have b0' := (Kept.refl wr).drew.cell b0
              have b1' := (Kept.refl wr).drew.cell b1
              have b2' := (Kept.refl wr).drew.cell b2
              clear b0 b1 b2
              go_wp2_with (at_builtin; refine wpList_apk rfl (.tmp 64) (.tmp 69) 44 44 rfl w1.heap.size 3 53 i0 _ 56 Tryz.underlying44 hi hz0 hzz1 hzz2 rfl rfl HRX.out rfl HSX.out (by unfold maxLen; omega) (by omega) (by simp; omega) ?_; intro v' w3 hown' hgrow hlies; have HN3 := Lib.hid hown'; have HK3 := Lib.hid (HKD.out.grown hgrow fun k e => HGE.out k e); obtain ⟨va', vn', vc', rfl⟩ := owns_slice hown'; clear hown' hgrow hlies)
              go_roundw
              case rel =>
                refine ⟨k + 1, qk ++ [(m, .slice pa pn2 pc)], by omega, by go_num, ?_, ?_, ?_, HK3.out⟩
                · rw [List.length_append, List.flatMap_append]
                  exact HN3.out
                · rw [HTK.out, ← HMZ.out.2.1]
                  exact addq_new (by rw [HMZ.out.2.1]; exact HIX2.out)
                · intro y hy
                  rcases List.mem_append.1 hy with hy | hy
                  · exact HMZ.out.2.2.1 y hy
                  · obtain rfl := List.mem_singleton.1 hy
                    exact HPR.out
              case measure => simp [intOf]; omega
        · have hlkI : ¬ (k : Int) < (ms.length : Int) := by omega
          obtain rfl : k = ms.length := by omega
          have HE := Lib.hid (show MsR w0 w1 ((mthsR t L (j + 1)).foldl Tab.addM []) qk (.slice ka qk.length kc) wo by rw [HXB.out]; have := hMk; rwa [List.take_length] at this)
          clear hMk
          go_wp2_with fail
          go_roundw
          case rel => exact ⟨j + 1, qk, HJ.out, by rw [HQ.out], HE.out⟩
          case measure => simp [intOf] <;> omega
    · have hjn : j = n := by omega
      subst hjn
      rw [show ((L.length : Int) - 1 - j) = -1 by rw [HN.out]; omega]
      have HE := Lib.hid (show MsR w0 w (Tab.methods t s) qs (.slice va vn vc) wr by
        obtain ⟨e1, e2, e3, e4⟩ := hM
        refine ⟨owns_base e1 HK1.out.size, ?_, e3, HK1.out.trans e4⟩
        rw [e2, HFS.out, HN.out])
      clear hM
      go_wp2_with fail
      go_ret
      exact ⟨_, _, rfl, HE.out⟩

end Go.Proofs.YthooiofaicdhgaaGreatDoor

namespace Go.Proofs.YthooiofaicdhgaaGreatDoor
open Go.ChangeShapes Go.WideShapes Go.ChangeAt Go.RowKit

namespace Tab
/-- The first of a name. -/
def aryR (t : List C) (s nm : ByteArray) : Option Int := ((members t s).find? fun x => decide (x.1 = nm)).map (·.2)
def fldR (t : List C) (s nm : ByteArray) : Option ByteArray := ((fields t s).find? fun x => decide (x.name = nm)).map (·.typ)
end Tab

def MmI (n₁ : Nat) (w1 : World) (l : List (ByteArray × Int)) (v : Value) (W : World) : Prop :=
  W.ownsRow n₁ 169 2 v l.length (l.flatMap bCells) ∧ Kept w1 W

theorem fields_le {t : List Tab.C} (hS : Small t) (s : ByteArray) : (Tab.fields t s).length ≤ 1000 * 1000 := by
  unfold Tab.fields
  refine Nat.le_trans (flatR_le (fun i => (Tab.nth t i).fields) 1000 _ fun i hi => hS.fields _ (nth_mem (Tab.line_lt (List.mem_reverse.1 hi)))) ?_
  have := Tab.line_short t s
  have := hS.len
  exact Nat.mul_le_mul_left _ (by simp; omega)
theorem methods_le {t : List Tab.C} (hS : Small t) (s : ByteArray) : (Tab.methods t s).length ≤ 1000 * 1000 := by
  unfold Tab.methods
  refine Nat.le_trans (foldA_le _ []) ?_
  rw [List.length_nil, Nat.zero_add]
  refine Nat.le_trans (flatR_le (fun i => (Tab.nth t i).methods) 1000 _ fun i hi => hS.methods _ (nth_mem (Tab.line_lt (List.mem_reverse.1 hi)))) ?_
  have := Tab.line_short t s
  have := hS.len
  exact Nat.mul_le_mul_left _ (by simp; omega)

set_option maxHeartbeats 8000000 in
theorem rmembers_c (t : List Tab.C) (a : Option Addr) (cp : Nat) (s : ByteArray) (w : World) (h : TabAt w (.slice a t.length cp) t) (hS : Small t) :
    Calls Tryz.prog 143 #[.slice a t.length cp, .string s] w fun e w' => ∃ v, e = .returned v ∧ w'.ownsRow w.heap.size 169 2 v (Tab.members t s).length ((Tab.members t s).flatMap bCells) ∧ Kept w w' := by
  obtain ⟨i0, hi, hz0, hzz1, hzz2⟩ := info_parts info_mem
  have HF := Lib.hid (rfields_c t a cp s w h hS)
  have HM := Lib.hid (fun (W : World) (k : Kept w W) => rmethods_c t a cp s w W k h hS)
  have HFL := Lib.hid (fields_le hS s)
  have HML := Lib.hid (methods_le hS s)
  have HME := Lib.hid (show Tab.members t s = fMem (Tab.fields t s) ++ (Tab.methods t s).map fun m => (m.name, (m.params.length : Int)) from rfl)
  generalize Tab.members t s = ans at HME ⊢
  generalize Tab.fields t s = F at HF HFL HME
  generalize Tab.methods t s = M at HM HML HME
  have hfl := HFL.out
  have hml := HML.out
  clear h hS
  go_enter Tryz.func143, Tryz.ntmps143
  go_wp2_with fail
  refine HF.out.mono ?_
  rintro e w1 ⟨fv, rfl, hr1, k1⟩
  obtain ⟨fa, fc, rfl⟩ := owns_slice_n hr1
  have HR1 := Lib.hid hr1
  have HK1 := Lib.hid k1
  clear hr1 k1
  go_wp2_with fail
  refine (HM.out _ HK1.out).mono ?_
  rintro e w2 ⟨mv, qs, rfl, hmr⟩
  obtain ⟨ma, mc, rfl⟩ := owns_slice_n hmr.1
  have HMR := Lib.hid hmr
  have hql : qs.length ≤ 1000 * 1000 := by have := hmr.2.1; rw [← this] at hml; simpa using hml
  have HMQ := Lib.hid (show M.map (fun m => (m.name, (m.params.length : Int))) = sMem qs by rw [← hmr.2.1, List.map_map]; rfl)
  have HR2 := Lib.hid (owns_only (S := fun _ => False) HR1.out (Only.of_kept hmr.2.2.2) (fun _ _ h => h))
  have HK2 := Lib.hid (HK1.out.trans hmr.2.2.2)
  clear hmr HR1 hml HML
  go_wp2_with fail
  go_loopw [5, 8] (fun l q wr => ∃ j : Nat, q = .int .i64 j ∧ j ≤ F.length ∧ MmI w2.heap.size w2 (fMem (F.take j)) l wr) (fun l q wr => F.length - (intOf q).toNat)
  case atStart => exact ⟨0, rfl, Nat.zero_le _, World.ownsRow_nil _ _ _ _, Kept.refl _⟩
  case round =>
    obtain ⟨j, rfl, hj, hR⟩ := hrel
    obtain ⟨wo, rfl⟩ : ∃ wo, wo = wr := ⟨_, rfl⟩
    have HO := Lib.hid hR
    obtain ⟨la, ln, lc, rfl⟩ := owns_slice hR.1
    by_cases hlt : j < F.length
    · have hltI : (j : Int) < (F.length : Int) := by omega
      have hx : F[j]? = some F[j] := List.getElem?_eq_getElem hlt
      generalize F[j] = x at hx
      obtain ⟨g, rfl, _⟩ := row_cells HR2.out (by omega)
      have c0 := hR.2.cell (var_cells HR2.out hx).1
      have HX := Lib.hid (show fMem (F.take (j + 1)) = fMem (F.take j) ++ [(x.name, -1)] by rw [List.take_add_one, hx]; unfold fMem; simp)
      have HL := Lib.hid (show (fMem (F.take j)).length = j by unfold fMem; simp; omega)
      have HRX := Lib.hid (owns_only (S := fun _ => False) hR.1 ((Only.refl _ wo).alloc (.cells #[.string x.name, .int .i64 (-1)] 169)) (fun _ _ h => h))
      have HSX := Lib.hid (src_two wo (x.name, -1))
      have HB := Lib.hid hR.2.size
      have HGE := Lib.hid (fun q (e : (Value.slice la ln lc).ownBlock = some q) => rown_ge hR.1 e)
      clear hx hR
      go_wp2_with (at_builtin; refine wpList_apk rfl (.tmp 22) (.tmp 29) 165 165 rfl w2.heap.size 2 169 i0 _ 24 Tryz.underlying165 hi hz0 hzz1 hzz2 rfl rfl HRX.out rfl HSX.out (by rw [HL.out]; unfold maxLen; omega) (by rw [HL.out]; omega) (by have := HB.out; simp; omega) ?_; intro v' w3 hown' hgrow hlies; have HN := Lib.hid hown'; have HK3 := Lib.hid ((HO.out.2.alloc (.cells #[.string x.name, .int .i64 (-1)] 169)).grown hgrow fun k e => HGE.out k e); obtain ⟨va', vn', vc', rfl⟩ := owns_slice hown'; clear hown' hgrow hlies)
      go_roundw
      case rel =>
        refine ⟨j + 1, by go_num, by omega, ?_, HK3.out⟩
        rw [HX.out, List.length_append, List.flatMap_append]
        exact HN.out
      case measure => simp [intOf]; omega
    · have hltI : ¬ (j : Int) < (F.length : Int) := by omega
      obtain rfl : j = F.length := by omega
      rw [List.take_length] at HO
      clear hR
      go_wp2_with fail
      go_loopw [5, 9] (fun l q wr => ∃ j : Nat, q = .int .i64 j ∧ j ≤ qs.length ∧ MmI w2.heap.size w2 (fMem F ++ sMem (qs.take j)) l wr) (fun l q wr => qs.length - (intOf q).toNat)
      case atStart => exact ⟨0, rfl, Nat.zero_le _, by simpa [sMem] using HO.out.1, HO.out.2⟩
      case round =>
        obtain ⟨j, rfl, hj, hR⟩ := hrel
        have HO3 := Lib.hid hR
        obtain ⟨la3, ln3, lc3, rfl⟩ := owns_slice hR.1
        by_cases hlt2 : j < qs.length
        · have hltI2 : (j : Int) < (qs.length : Int) := by omega
          have hx : qs[j]? = some qs[j] := List.getElem?_eq_getElem hlt2
          generalize qs[j] = x at hx
          obtain ⟨g, rfl, _⟩ := row_cells HMR.out.1 (by omega)
          obtain ⟨c0, c1, c2⟩ := sig_cells HMR.out.1 hx
          obtain ⟨pa, pc, hpe, p1, p2, _⟩ := HMR.out.2.2.1 x (List.mem_of_getElem? hx)
          unfold maxLen at p2
          rw [hpe] at c1
          have d0 := hR.2.cell c0
          have d1 := hR.2.cell c1
          have HX := Lib.hid (show fMem F ++ sMem (qs.take (j + 1)) = (fMem F ++ sMem (qs.take j)) ++ [(x.1.name, (x.1.params.length : Int))] by rw [List.take_add_one, hx]; unfold sMem; simp)
          have HL := Lib.hid (show (fMem F ++ sMem (qs.take j)).length = F.length + j by unfold fMem sMem; simp; omega)
          obtain ⟨pn, hpn⟩ : ∃ pn, x.1.params.length = pn := ⟨_, rfl⟩
          rw [hpn] at d1 HX p1
          have HRX := Lib.hid (owns_only (S := fun _ => False) hR.1 ((Only.refl _ wr).drew.alloc (.cells #[.string x.1.name, .int .i64 pn] 169)) (fun _ _ h => h))
          have HSX := Lib.hid (src_two wr.drew (x.1.name, (pn : Int)))
          have HB := Lib.hid hR.2.size
          have HGE := Lib.hid (fun q (e : (Value.slice la3 ln3 lc3).ownBlock = some q) => rown_ge hR.1 e)
          have HKD := Lib.hid (hR.2.drew.alloc (.cells #[.string x.1.name, .int .i64 pn] 169))
          rw [hpn] at c1
          have HC0 := Lib.hid c0
          have HC1 := Lib.hid c1
          clear hx hR hpe hpn c0 c1 c2
          go_wp2_with fail
          refine wp_region_held_drew (S := (fun W => W.cell? ⟨g, j * 3, none⟩ = some (.string x.1.name) ∧ W.cell? ⟨g, j * 3 + 1, none⟩ = some (.slice pa pn pc) ∧ Kept w2 W)) (by kernel_rfl) ⟨d0, d1, HO3.out.2.drew⟩ (fun hHeld0 => ?_)
          refine wpAnyH_take (i := 0) (v := ?_) rfl (by kernel_rfl) (by kernel_rfl) (by kernel_rfl) (fun _ _ _ h => h) (Or.inl ⟨by kernel_rfl, ?_⟩) (by assumption) ?_
          rotate_left
          · intro w hSw; (try dsimp only at hSw); go_simp; (try with_reducible rfl)
          (try simp only [Act.put, List.getElem_toArray, List.getElem_cons_zero, List.getElem_cons_succ, List.setIfInBounds_toArray, List.set_cons_zero, List.set_cons_succ])
          refine wpAnyH_take (i := 1) (v := ?_) rfl (by kernel_rfl) (by kernel_rfl) (by kernel_rfl) (fun _ _ _ h => h) (Or.inl ⟨by kernel_rfl, ?_⟩) (by assumption) ?_
          rotate_left
          · intro w hSw; (try dsimp only at hSw); go_simp; (try with_reducible rfl)
          (try simp only [Act.put, List.getElem_toArray, List.getElem_cons_zero, List.getElem_cons_succ, List.setIfInBounds_toArray, List.set_cons_zero, List.set_cons_succ])
          refine wpAnyH_take (i := 2) (v := ?_) rfl (by kernel_rfl) (by kernel_rfl) (by kernel_rfl) (fun _ _ _ h => h) (Or.inl ⟨by kernel_rfl, ?_⟩) (by assumption) ?_
          rotate_left
          · intro w hSw; (try dsimp only at hSw); go_simp; (try with_reducible rfl)
          (try simp only [Act.put, List.getElem_toArray, List.getElem_cons_zero, List.getElem_cons_succ, List.setIfInBounds_toArray, List.set_cons_zero, List.set_cons_succ])
          refine wpAnyH_take (i := 3) (v := ?_) rfl (by kernel_rfl) (by kernel_rfl) (by kernel_rfl) (fun _ _ _ h => h) (Or.inl ⟨by kernel_rfl, ?_⟩) (by assumption) ?_
          rotate_left
          · intro w hSw; (try dsimp only at hSw); go_simp; (try with_reducible rfl)
          (try simp only [Act.put, List.getElem_toArray, List.getElem_cons_zero, List.getElem_cons_succ, List.setIfInBounds_toArray, List.set_cons_zero, List.set_cons_succ])
          refine wpAnyH_take (i := 4) (v := ?_) rfl (by kernel_rfl) (by kernel_rfl) (by kernel_rfl) (fun _ _ _ h => h) (Or.inl ⟨by kernel_rfl, ?_⟩) (by assumption) ?_
          rotate_left
          · intro w hSw; (try dsimp only at hSw); go_simp; (try with_reducible rfl)
          (try simp only [Act.put, List.getElem_toArray, List.getElem_cons_zero, List.getElem_cons_succ, List.setIfInBounds_toArray, List.set_cons_zero, List.set_cons_succ])
          refine wpAnyH_take (i := 5) (v := ?_) rfl (by kernel_rfl) (by kernel_rfl) (by kernel_rfl) (fun _ _ _ h => h) (Or.inl ⟨by kernel_rfl, ?_⟩) (by assumption) ?_
          rotate_left
          · intro w hSw; (try dsimp only at hSw); go_simp; (try with_reducible rfl)
          (try simp only [Act.put, List.getElem_toArray, List.getElem_cons_zero, List.getElem_cons_succ, List.setIfInBounds_toArray, List.set_cons_zero, List.set_cons_succ])
          refine wpAnyH_take (i := 6) (v := ?_) rfl (by kernel_rfl) (by kernel_rfl) (by kernel_rfl) (fun _ _ _ h => h) (Or.inl ⟨by kernel_rfl, ?_⟩) (by assumption) ?_
          rotate_left
          · intro w hSw; (try dsimp only at hSw); go_simp; (try with_reducible rfl)
          (try simp only [Act.put, List.getElem_toArray, List.getElem_cons_zero, List.getElem_cons_succ, List.setIfInBounds_toArray, List.set_cons_zero, List.set_cons_succ])
          refine wpAnyH_take (i := 7) (v := ?_) rfl (by kernel_rfl) (by kernel_rfl) (by kernel_rfl) (fun _ _ _ h => h) (Or.inl ⟨by kernel_rfl, ?_⟩) (by assumption) ?_
          rotate_left
          · intro w hSw; (try dsimp only at hSw); go_simp; (try with_reducible rfl)
          (try simp only [Act.put, List.getElem_toArray, List.getElem_cons_zero, List.getElem_cons_succ, List.setIfInBounds_toArray, List.set_cons_zero, List.set_cons_succ])
          refine wpAnyH_take (i := 8) (v := ?_) rfl (by kernel_rfl) (by kernel_rfl) (by kernel_rfl) (fun _ _ _ h => h) (Or.inl ⟨by kernel_rfl, ?_⟩) (by assumption) ?_
          rotate_left
          · intro w hSw; (try dsimp only at hSw); go_simp; (try with_reducible rfl)
          (try simp only [Act.put, List.getElem_toArray, List.getElem_cons_zero, List.getElem_cons_succ, List.setIfInBounds_toArray, List.set_cons_zero, List.set_cons_succ])
          refine wpAnyH_take (i := 9) (v := ?_) rfl (by kernel_rfl) (by kernel_rfl) (by kernel_rfl) (fun _ _ _ h => h) (Or.inl ⟨by kernel_rfl, ?_⟩) (by assumption) ?_
          rotate_left
          · intro w hSw; (try dsimp only at hSw); go_simp; (try with_reducible rfl)
          (try simp only [Act.put, List.getElem_toArray, List.getElem_cons_zero, List.getElem_cons_succ, List.setIfInBounds_toArray, List.set_cons_zero, List.set_cons_succ])
          refine wpAnyH_take (i := 10) (v := ?_) rfl (by kernel_rfl) (by kernel_rfl) (by kernel_rfl) (fun _ _ _ h => h) (Or.inl ⟨by kernel_rfl, ?_⟩) (by assumption) ?_
          rotate_left
          · intro w hSw; (try dsimp only at hSw); go_simp; (try with_reducible rfl)
          (try simp only [Act.put, List.getElem_toArray, List.getElem_cons_zero, List.getElem_cons_succ, List.setIfInBounds_toArray, List.set_cons_zero, List.set_cons_succ])
          refine wpAnyH_take (i := 11) (v := ?_) rfl (by kernel_rfl) (by kernel_rfl) (by kernel_rfl) (fun _ _ _ h => h) (Or.inl ⟨by kernel_rfl, ?_⟩) (by assumption) ?_
          rotate_left
          · intro w hSw; (try dsimp only at hSw); go_simp; (try with_reducible rfl)
          (try simp only [Act.put, List.getElem_toArray, List.getElem_cons_zero, List.getElem_cons_succ, List.setIfInBounds_toArray, List.set_cons_zero, List.set_cons_succ])
          refine wpAnyH_take (i := 12) (v := ?_) rfl (by kernel_rfl) (by kernel_rfl) (by kernel_rfl) (fun _ _ _ h => h) (Or.inl ⟨by kernel_rfl, ?_⟩) (by assumption) ?_
          rotate_left
          · intro w hSw; (try dsimp only at hSw); go_simp; (try with_reducible rfl)
          (try simp only [Act.put, List.getElem_toArray, List.getElem_cons_zero, List.getElem_cons_succ, List.setIfInBounds_toArray, List.set_cons_zero, List.set_cons_succ])
          refine wpAnyH_ready (rs := [13]) (by kernel_rfl) (by simp) ?_
          refine AllReadyH.cons rfl (fun K hK => ?_) AllReadyH.nil
          go_simp
          refine hK.out _ _ ⟨HKD.out.cell HC0.out, HKD.out.cell HC1.out, HKD.out⟩ (fun hHeld1 => ?_)
          clear hK K
          (try simp only [Act.put, List.getElem_toArray, List.getElem_cons_zero, List.getElem_cons_succ, List.setIfInBounds_toArray, List.set_cons_zero, List.set_cons_succ])
          refine wpAnyH_ready (rs := [14]) (by kernel_rfl) (by simp) ?_
          refine AllReadyH.cons rfl (fun K hK => ?_) AllReadyH.nil
          refine step_apk rfl (.tmp 37) (.tmp 50) 165 165 rfl w2.heap.size 2 169 i0 _ 24 Tryz.underlying165 hi hz0 hzz1 hzz2 rfl rfl HRX.out rfl HSX.out (by rw [HL.out]; unfold maxLen; omega) (by rw [HL.out]; omega) (by have := HB.out; simp; omega) ?_
          intro v' w3 hown' hgrow hnl hlies
          have HN := Lib.hid hown'
          have HK3 := Lib.hid (HKD.out.grown hgrow fun k e => HGE.out k e)
          obtain ⟨va', vn', vc', rfl⟩ := owns_slice hown'
          clear hown' hgrow hlies hnl
          refine hK.out _ _ ⟨HK3.out.cell HC0.out, HK3.out.cell HC1.out, HK3.out⟩ (fun hHeld2 => ?_)
          clear hK K
          (try simp only [Act.put, List.getElem_toArray, List.getElem_cons_zero, List.getElem_cons_succ, List.setIfInBounds_toArray, List.set_cons_zero, List.set_cons_succ])
          refine wpAnyH_take (i := 15) (v := ?_) rfl (by kernel_rfl) (by kernel_rfl) (by kernel_rfl) (fun _ _ _ h => h) (Or.inl ⟨by kernel_rfl, ?_⟩) (by assumption) ?_
          rotate_left
          · intro w hSw; (try dsimp only at hSw); go_simp; (try with_reducible rfl)
          (try simp only [Act.put, List.getElem_toArray, List.getElem_cons_zero, List.getElem_cons_succ, List.setIfInBounds_toArray, List.set_cons_zero, List.set_cons_succ])
          refine wpAnyH_done (by kernel_rfl) ?_ _
          clear hHeld0 hHeld1 hHeld2
          go_wp2_with fail
          go_roundw
          case rel =>
            refine ⟨j + 1, by go_num, by omega, ?_, HK3.out⟩
            rw [HX.out, List.length_append, List.flatMap_append]
            exact HN.out
          case measure => simp [intOf]; omega
        · have hltI2 : ¬ (j : Int) < (qs.length : Int) := by omega
          obtain rfl : j = qs.length := by omega
          rw [List.take_length] at HO3
          have HA := Lib.hid (show ans = fMem F ++ sMem qs by rw [HME.out, HMQ.out])
          clear hR
          go_wp2_with fail
          go_ret
          exact ⟨_, rfl, owns_base (by rw [HA.out]; exact HO3.out.1) HK2.out.size, HK2.out.trans HO3.out.2⟩

def AryPost (r : Option Int) (w : World) (e : Ending) (w' : World) : Prop := e = .returned (.tuple #[.int .i64 (r.getD 0), .bool r.isSome]) ∧ Kept w w'
def FldPost (r : Option ByteArray) (w : World) (e : Ending) (w' : World) : Prop := e = .returned (.tuple #[.string (r.getD ⟨#[]⟩), .bool r.isSome]) ∧ Kept w w'

theorem find_hereN {α : Type} {nm : α → ByteArray} {l : List α} {j : Nat} {x : α} {s : ByteArray} (hx : l[j]? = some x) (h : ∀ y ∈ l.take j, ¬ nm y = s) (hp : nm x = s) : (l.find? fun y => decide (nm y = s)) = some x := by
  obtain ⟨hj, e⟩ := List.getElem?_eq_some_iff.1 hx
  rw [List.find?_eq_some_iff_append]
  refine ⟨decide_eq_true hp, l.take j, l.drop (j + 1), ?_, fun y hy => by simp [h y hy]⟩
  rw [← e, ← List.drop_eq_getElem_cons hj, List.take_append_drop]
theorem find_noneN {α : Type} {nm : α → ByteArray} {l : List α} {s : ByteArray} (h : ∀ y ∈ l.take l.length, ¬ nm y = s) : (l.find? fun y => decide (nm y = s)) = none := by
  rw [List.take_length] at h
  rw [List.find?_eq_none]
  intro y hy
  simp [h y hy]
theorem mem_cells {w : World} {base g n c : Nat} {l : List (ByteArray × Int)} (h : w.ownsRow base 169 2 (.slice (some ⟨g, 0, none⟩) n c) l.length (l.flatMap bCells)) {j : Nat} {x : ByteArray × Int} (hx : l[j]? = some x) : w.cell? ⟨g, j * 2, none⟩ = some (.string x.1) ∧ w.cell? ⟨g, j * 2 + 1, none⟩ = some (.int .i64 x.2) := by
  have c0 := h.cells (g := g) rfl _ _ (flat_at bCells bCells_len l j 0 x hx (by omega))
  have c1 := h.cells (g := g) rfl _ _ (flat_at bCells bCells_len l j 1 x hx (by omega))
  rw [addr_plain] at c0 c1
  exact ⟨by simpa using c0, by simpa using c1⟩

set_option maxHeartbeats 4000000 in
theorem rarity_c (t : List Tab.C) (a : Option Addr) (cp : Nat) (s nm : ByteArray) (w : World) (h : TabAt w (.slice a t.length cp) t) (hS : Small t) :
    Calls Tryz.prog 144 #[.slice a t.length cp, .string s, .string nm] w (AryPost (Tab.aryR t s nm) w) := by
  have HM := Lib.hid (rmembers_c t a cp s w h hS)
  have HL := Lib.hid (show (Tab.members t s).length ≤ 2000 * 1000 by
    have h1 := fields_le hS s
    have h2 := methods_le hS s
    unfold Tab.members
    simp
    omega)
  have HE := Lib.hid (show Tab.aryR t s nm = ((Tab.members t s).find? fun x => decide (x.1 = nm)).map (·.2) from rfl)
  generalize Tab.aryR t s nm = ans at HE ⊢
  generalize Tab.members t s = M at HM HL HE
  have hl := HL.out
  clear h hS
  go_enter Tryz.func144, Tryz.ntmps144
  go_wp2_with fail
  refine HM.out.mono ?_
  rintro e w1 ⟨v, rfl, hr, k1⟩
  obtain ⟨ma, mc, rfl⟩ := owns_slice_n hr
  have HR := Lib.hid hr
  have HK := Lib.hid k1
  clear hr k1
  go_wp2_with fail
  go_loopw [9] (fun q wr => ∃ j : Nat, q = .int .i64 j ∧ j ≤ M.length ∧ (∀ y ∈ M.take j, ¬ y.1 = nm) ∧ wr = w1) (fun q wr => M.length - (intOf q).toNat)
  case atStart => exact ⟨0, rfl, Nat.zero_le _, (fun y hy => by simp at hy), rfl⟩
  case round =>
    obtain ⟨j, rfl, hj, hno, rfl⟩ := hrel
    have HNO := Lib.hid hno
    clear hno
    by_cases hlt : j < M.length
    · have hltI : (j : Int) < (M.length : Int) := by omega
      have hx : M[j]? = some M[j] := List.getElem?_eq_getElem hlt
      obtain ⟨g, rfl, _⟩ := row_cells HR.out (by omega)
      obtain ⟨c0, c1⟩ := mem_cells HR.out hx
      generalize M[j] = x at hx c0 c1
      have HX := Lib.hid hx
      clear hx
      by_cases hn : x.1 = nm
      · have hb := beq_yes hn
        obtain rfl : ans = some x.2 := by rw [HE.out, find_hereN HX.out HNO.out hn]; rfl
        clear hn
        go_wp2_with fail
        go_ret2
        exact ⟨rfl, HK.out⟩
      · have hb := beq_no hn
        have HN := Lib.hid (take_not HNO.out HX.out hn)
        clear hn
        go_wp2_with fail
        go_roundw
        case rel => exact ⟨j + 1, by go_num, by omega, HN.out, by first | trivial | rfl⟩
        case measure => simp [intOf]; omega
    · have hltI : ¬ (j : Int) < (M.length : Int) := by omega
      obtain rfl : j = M.length := by omega
      obtain rfl : ans = none := by rw [HE.out, find_noneN HNO.out]; rfl
      go_wp2_with fail
      go_ret2
      exact ⟨rfl, HK.out⟩

set_option maxHeartbeats 4000000 in
theorem rfieldq_c (t : List Tab.C) (a : Option Addr) (cp : Nat) (s nm : ByteArray) (w : World) (h : TabAt w (.slice a t.length cp) t) (hS : Small t) :
    Calls Tryz.prog 182 #[.slice a t.length cp, .string s, .string nm] w (FldPost (Tab.fldR t s nm) w) := by
  have HM := Lib.hid (rfields_c t a cp s w h hS)
  have HL := Lib.hid (fields_le hS s)
  have HE := Lib.hid (show Tab.fldR t s nm = ((Tab.fields t s).find? fun x => decide (x.name = nm)).map (·.typ) from rfl)
  generalize Tab.fldR t s nm = ans at HE ⊢
  generalize Tab.fields t s = M at HM HL HE
  have hl := HL.out
  clear h hS
  go_enter Tryz.func182, Tryz.ntmps182
  go_wp2_with fail
  refine HM.out.mono ?_
  rintro e w1 ⟨v, rfl, hr, k1⟩
  obtain ⟨ma, mc, rfl⟩ := owns_slice_n hr
  have HR := Lib.hid hr
  have HK := Lib.hid k1
  clear hr k1
  go_wp2_with fail
  go_loopw [9] (fun q wr => ∃ j : Nat, q = .int .i64 j ∧ j ≤ M.length ∧ (∀ y ∈ M.take j, ¬ y.name = nm) ∧ wr = w1) (fun q wr => M.length - (intOf q).toNat)
  case atStart => exact ⟨0, rfl, Nat.zero_le _, (fun y hy => by simp at hy), rfl⟩
  case round =>
    obtain ⟨j, rfl, hj, hno, rfl⟩ := hrel
    have HNO := Lib.hid hno
    clear hno
    by_cases hlt : j < M.length
    · have hltI : (j : Int) < (M.length : Int) := by omega
      have hx : M[j]? = some M[j] := List.getElem?_eq_getElem hlt
      obtain ⟨g, rfl, _⟩ := row_cells HR.out (by omega)
      obtain ⟨c0, c1⟩ := var_cells HR.out hx
      generalize M[j] = x at hx c0 c1
      have HX := Lib.hid hx
      clear hx
      by_cases hn : x.name = nm
      · have hb := beq_yes hn
        obtain rfl : ans = some x.typ := by rw [HE.out, find_hereN HX.out HNO.out hn]; rfl
        clear hn
        go_wp2_with fail
        go_ret2
        exact ⟨rfl, HK.out⟩
      · have hb := beq_no hn
        have HN := Lib.hid (take_not HNO.out HX.out hn)
        clear hn
        go_wp2_with fail
        go_roundw
        case rel => exact ⟨j + 1, by go_num, by omega, HN.out, by first | trivial | rfl⟩
        case measure => simp [intOf]; omega
    · have hltI : ¬ (j : Int) < (M.length : Int) := by omega
      obtain rfl : j = M.length := by omega
      obtain rfl : ans = none := by rw [HE.out, find_noneN HNO.out]; rfl
      go_wp2_with fail
      go_ret2
      exact ⟨rfl, HK.out⟩

end Go.Proofs.YthooiofaicdhgaaGreatDoor
