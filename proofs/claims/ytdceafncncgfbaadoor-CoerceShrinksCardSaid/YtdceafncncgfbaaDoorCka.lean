/- awake. (genca.py) -/
import Derived.Test.YtdceafncncgfbaaDoorCky
set_option linter.unusedSimpArgs false
set_option linter.unusedVariables false
set_option maxRecDepth 100000
namespace Go.Proofs.YtdceafncncgfbaaDoor
open Go.ChangeShapes Go.WideShapes Go.ChangeAt Go.RowKit Go.Shelf

theorem lys_lit1 {W : World} {q : Nat} {y : Ly} (h : Blk W q lT #[.bool y.out, .string y.cls, .int .i64 y.lab]) (hy : y.cls.size ≤ maxLen) : LysAt W (.slice (some ⟨q, 0, none⟩) 1 1) [y] := by
  refine ⟨_, 1, rfl, by simp, by decide, fun i x hx => ?_⟩
  cases i with
  | zero => simp at hx; subst hx; exact ⟨q, 0, rfl, h.cell _, h.cell _, h.cell _, hy⟩
  | succ i => simp at hx
theorem lys_lit2 {W : World} {q : Nat} {y z : Ly} (h : Blk W q lT #[.bool y.out, .string y.cls, .int .i64 y.lab, .bool z.out, .string z.cls, .int .i64 z.lab]) (hy : y.cls.size ≤ maxLen) (hz : z.cls.size ≤ maxLen) : LysAt W (.slice (some ⟨q, 0, none⟩) 2 2) [y, z] := by
  refine ⟨_, 2, rfl, by simp, by decide, fun i x hx => ?_⟩
  cases i with
  | zero => simp at hx; subst hx; exact ⟨q, 0, rfl, h.cell _, h.cell _, h.cell _, hy⟩
  | succ i => cases i with
    | zero => simp at hx; subst hx; exact ⟨q, 0, rfl, h.cell _, h.cell _, h.cell _, hz⟩
    | succ i => simp at hx
theorem sameV_y (x : Vw) (l : List Ly) (xa ya : Option Addr) (xc yc : Nat) (w : World) (hl : LysAt w (.slice xa l.length xc) l) (hm : LysAt w (.slice ya l.length yc) l) :
    Calls Tryd.prog 14 #[vV x (.slice xa l.length xc), vV x (.slice ya l.length yc)] w fun e w' => e = .returned (.bool true) ∧ Kept w w' :=
  (sameV_c x x l l xa ya xc yc w hl hm).mono fun e w' h => by rwa [decide_eq_true (show x = x ∧ l = l from ⟨rfl, rfl⟩)] at h
theorem small1 {s : ByteArray} (h : s.size ≤ 100) : s.size ≤ maxLen := by unfold maxLen; omega
abbrev cL : List Ly := [⟨false, bC, -1⟩, ⟨true, bC, 1⟩]
abbrev xL : List Ly := [⟨false, bD, -1⟩, ⟨true, bD, 1⟩]
abbrev zW : Vw := ⟨0, 0, 0, e0w⟩
theorem ow_val : Co.valR (objW bE) (Co.goR someT (objW bE) (fun c => Co.givenP someT c bm) false (objW bC) cL []) = (objW bE, xL) := by kernel_rfl
theorem ow_lab : Co.labR (Co.goR someT (objW bE) (fun c => Co.givenP someT c bm) false (objW bC) cL []) = 0 := by kernel_rfl
theorem iw_val : Co.valR threeW (Co.goR someT threeW (fun c => Co.takenP someT c bm 0) true (objW bC) cL []) = (zW, []) := by kernel_rfl
theorem iw_lab : Co.labR (Co.goR someT threeW (fun c => Co.takenP someT c bm 0) true (objW bC) cL []) = -1 := by kernel_rfl
theorem ow_c (ta : Option Addr) (tcp : Nat) (qc : Nat) (W : World) (hT : TabAt W (.slice ta someT.length tcp) someT) (hTb : Tb W) (hL : LysAt W (.slice (some ⟨qc, 0, none⟩) cL.length 2) cL) :
    Calls Tryd.prog 23 #[.slice ta someT.length tcp, vV (objW bC) (.slice (some ⟨qc, 0, none⟩) cL.length 2), .string bm, vV (objW bE) (.slice none ([] : List Ly).length 0), .bool false] W (AnsPost (objW bE, xL) 0 W) :=
  (ooutward_c false (objW bE) none 0 [] ta tcp someT (objW bC) (some ⟨qc, 0, none⟩) 2 cL bm W hT some_small hTb Row.nil hL (small1 (by decide)) (by decide)).mono (fun e w' h => by have := ans_of h; rwa [sent_false, ow_val, ow_lab] at this)
theorem iw_c (ta : Option Addr) (tcp : Nat) (qc : Nat) (W : World) (hT : TabAt W (.slice ta someT.length tcp) someT) (hTb : Tb W) (hL : LysAt W (.slice (some ⟨qc, 0, none⟩) cL.length 2) cL) :
    Calls Tryd.prog 16 #[.slice ta someT.length tcp, vV (objW bC) (.slice (some ⟨qc, 0, none⟩) cL.length 2), .string bm, .int .i64 0, vV threeW (.slice none ([] : List Ly).length 0), .bool false] W (AnsPost (zW, []) (-1) W) :=
  (oinward_c false threeW none 0 [] ta tcp someT (objW bC) (some ⟨qc, 0, none⟩) 2 cL bm 0 W hT some_small hTb Row.nil hL (by decide) (small1 (by decide)) (by decide)).mono (fun e w' h => by have := ans_of h; rwa [sent_false, iw_val, iw_lab] at this)
theorem cs1 : (decide ((Co.valR (objW bE) (Co.castR someT (objW bE) [] bE bD 2)).1 = objW bE ∧ (Co.valR (objW bE) (Co.castR someT (objW bE) [] bE bD 2)).2 = [⟨false, bE, -2⟩, ⟨true, bD, 2⟩]) && decide (Co.labR (Co.castR someT (objW bE) [] bE bD 2) = 0)) = true := by kernel_rfl
theorem cs2 : (decide ((Co.valR threeW (Co.castR someT threeW [] bq bstr 1)).1 = zW ∧ (Co.valR threeW (Co.castR someT threeW [] bq bstr 1)).2 = []) && decide (Co.labR (Co.castR someT threeW [] bq bstr 1) = 1)) = true := by kernel_rfl
theorem es1 : (decide ((Co.valR (objW bE) (Co.enterR someT (objW bE) [⟨false, bD, 1⟩] bE 5)).1 = zW ∧ (Co.valR (objW bE) (Co.enterR someT (objW bE) [⟨false, bD, 1⟩] bE 5)).2 = []) && decide (Co.labR (Co.enterR someT (objW bE) [⟨false, bD, 1⟩] bE 5) = 5)) = true := by kernel_rfl

set_option maxHeartbeats 32000000 in
theorem awake_c (w : World) (hTb : Tb w) : Calls Tryd.prog 18 #[] w fun e w' => e = .returned (.bool true) ∧ Kept w w' := by
  have HTb := Lib.hid hTb
  clear hTb
  go_enter Tryd.func18, Tryd.ntmps18
  go_wp2_with fail
  refine (in_c _ _ _).mono ?_
  rintro e w1 ⟨rfl, k1⟩
  go_wp2_with fail
  refine (out_cc _ _ _).mono ?_
  rintro e w2 ⟨rfl, k2⟩
  obtain ⟨w3, hw3⟩ : ∃ W, w2.alloc (.cells #[.bool false, .string bC, .int .i64 (-1), .bool true, .string bC, .int .i64 1] lT) = W := ⟨_, rfl⟩
  have k3 : Kept w2 w3 := by rw [← hw3]; exact (Kept.refl _).alloc _
  obtain ⟨qc, hqc⟩ : ∃ q, w2.heap.size = q := ⟨_, rfl⟩
  have HCL := Lib.hid (show LysAt w3 (.slice (some ⟨qc, 0, none⟩) cL.length 2) cL from lys_lit2 (by rw [← hw3, ← hqc]; exact Blk.new _ _ _) (small1 (by decide)) (small1 (by decide)))
  have HK3 := Lib.hid ((k1.trans k2).trans k3)
  have HW3 := Lib.hid hw3
  clear k1 k2 k3 hw3
  go_wp2_with (first | rw [HW3.out] | rw [hqc])
  refine (obj_c bC (some ⟨qc, 0, none⟩) 2 2 w3).mono ?_
  rintro e w4 ⟨rfl, k4⟩
  obtain ⟨W5, hW5⟩ : ∃ W, w4.alloc (.cells #[.int .i64 7, .int .i64 1, .int .u64 0, .string bC, .slice (some ⟨qc, 0, none⟩) 2 2] uT) = W := ⟨_, rfl⟩
  obtain ⟨q1, hq1⟩ : ∃ q, w4.heap.size = q := ⟨_, rfl⟩
  have k5 : Kept w4 W5 := by rw [← hW5]; exact (Kept.refl _).alloc _
  obtain ⟨D, hD⟩ : ∃ D, W5.drew = D := ⟨_, rfl⟩
  have k6 : Kept w4 D := by rw [← hD]; exact k5.drew
  have b1 : Blk D q1 uT #[.int .i64 7, .int .i64 1, .int .u64 0, .string bC, .slice (some ⟨qc, 0, none⟩) 2 2] := by rw [← hD, ← hq1]; exact (show Blk W5 w4.heap.size uT _ by rw [← hW5]; exact Blk.new _ _ _).kept (Kept.refl _).drew
  have HKD := Lib.hid (HK3.out.trans (k4.trans k6))
  have HCD := Lib.hid (lys_kept HCL.out (k4.trans k6))
  have HB1 := Lib.hid b1
  have HW5 := Lib.hid hW5
  clear k4 k5 k6 b1 hW5 hqc
  go_upto_region 2 with (first | rw [HW5.out] | rw [hq1])
  obtain ⟨⟨p0, p1, p2, p3, p4⟩, _⟩ := blk5u HB1.out
  go_cut [2, 3] from 10 (fun sq sl wx => ∃ q ca cc, sq = .pointer (some ⟨q, 0, none⟩) ∧ sl = .int .i64 (0) ∧ Hid (Blk wx q uT #[.int .i64 (objW bE).tag, .int .i64 (objW bE).n, .int .u64 (objW bE).bits, .string (objW bE).s, .slice ca xL.length cc]) ∧ Hid (LysAt wx (.slice ca xL.length cc) xL) ∧ Hid (Kept D wx))
  case rest =>
    obtain ⟨q2, xa, xc, rfl, rfl, HXB, HXL, HKX⟩ := hcut
    clear hD
    obtain ⟨D2, hD2⟩ : ∃ E, wc.drew = E := ⟨_, rfl⟩
    have kE : Kept wc D2 := by rw [← hD2]; exact (Kept.refl _).drew
    have kx := HKX.out.trans kE
    replace HXB := Lib.hid (HXB.out.kept kE)
    replace HXL := Lib.hid (lys_kept HXL.out kE)
    have HKD2 := Lib.hid (HKD.out.trans kx)
    have HCD2 := Lib.hid (lys_kept HCD.out kx)
    have HB12 := Lib.hid (HB1.out.kept kx)
    clear kx kE p0 p1 p2 p3 p4
    obtain ⟨⟨p0, p1, p2, p3, p4⟩, _⟩ := blk5u HB12.out
    have hSK2 := True.intro
    go_upto_region 3 with fail
    go_cut [4, 5] from 17 (fun sq sl wx => ∃ q ca cc, sq = .pointer (some ⟨q, 0, none⟩) ∧ sl = .int .i64 (-1) ∧ Hid (Blk wx q uT #[.int .i64 zW.tag, .int .i64 zW.n, .int .u64 zW.bits, .string zW.s, .slice ca ([] : List Ly).length cc]) ∧ Hid (LysAt wx (.slice ca ([] : List Ly).length cc) ([] : List Ly)) ∧ Hid (Kept D2 wx))
    case rest =>
      obtain ⟨q4, ya, yc, rfl, rfl, HYB, HYL, HKY⟩ := hcut
      clear hD2
      obtain ⟨E, hE⟩ : ∃ E, wc.drew = E := ⟨_, rfl⟩
      have kE : Kept wc E := by rw [← hE]; exact (Kept.refl _).drew
      have kx := HKY.out.trans kE
      obtain ⟨⟨g0, g1, g2, g3, g4⟩, _⟩ := blk5u (HXB.out.kept kx)
      obtain ⟨⟨h0, h1, h2, h3, h4⟩, _⟩ := blk5u (HYB.out.kept kE)
      replace HXL := Lib.hid (lys_kept HXL.out kx)
      replace HYL := Lib.hid (lys_kept HYL.out kE)
      have HKE := Lib.hid (HKD2.out.trans kx)
      clear kx kE p0 p1 p2 p3 p4 hSK2
      have hS4 := fun W (k : Kept E W) => And.intro (k.cell g0) (And.intro (k.cell g1) (And.intro (k.cell g2) (And.intro (k.cell g3) (And.intro (k.cell g4) (And.intro (k.cell h0) (And.intro (k.cell h1) (And.intro (k.cell h2) (And.intro (k.cell h3) (k.cell h4)))))))))
      go_wp2_with fail
      refine wp_region_held_drew (S := (fun W => W.cell? ⟨q2, 0, none⟩ = some (.int .i64 7) ∧ W.cell? ⟨q2, 1, none⟩ = some (.int .i64 1) ∧ W.cell? ⟨q2, 2, none⟩ = some (.int .u64 0) ∧ W.cell? ⟨q2, 3, none⟩ = some (.string bE) ∧ W.cell? ⟨q2, 4, none⟩ = some (.slice xa xL.length xc) ∧ W.cell? ⟨q4, 0, none⟩ = some (.int .i64 0) ∧ W.cell? ⟨q4, 1, none⟩ = some (.int .i64 0) ∧ W.cell? ⟨q4, 2, none⟩ = some (.int .u64 0) ∧ W.cell? ⟨q4, 3, none⟩ = some (.string e0w) ∧ W.cell? ⟨q4, 4, none⟩ = some (.slice ya ([] : List Ly).length yc))) (by kernel_rfl) (by rw [hE]; exact hS4 E (Kept.refl _)) (fun hHeld0 => ?_)
      rw [hE] at hHeld0 ⊢
      clear hE
      have kq : Kept E E := Kept.refl _
      refine wpAnyH_ready (rs := [0]) (by kernel_rfl) (by simp) ?_
      refine AllReadyH.cons rfl (fun K hK => ?_) AllReadyH.nil
      go_simp
      refine (obj_c bE none 0 0 E).mono ?_
      rintro e y1 ⟨rfl, kn⟩
      replace kq := kq.trans kn
      clear kn
      refine hK.out _ _ (hS4 _ kq) (fun hHeld1 => ?_)
      clear hK K
      (try simp only [Act.put, List.getElem_toArray, List.getElem_cons_zero, List.getElem_cons_succ, List.setIfInBounds_toArray, List.set_cons_zero, List.set_cons_succ])
      refine wpAnyH_ready (rs := [1]) (by kernel_rfl) (by simp) ?_
      refine AllReadyH.cons rfl (fun K hK => ?_) AllReadyH.nil
      go_simp
      refine (in_c bE (-2) y1).mono ?_
      rintro e y2 ⟨rfl, kn⟩
      replace kq := kq.trans kn
      clear kn
      refine hK.out _ _ (hS4 _ kq) (fun hHeld2 => ?_)
      clear hK K
      (try simp only [Act.put, List.getElem_toArray, List.getElem_cons_zero, List.getElem_cons_succ, List.setIfInBounds_toArray, List.set_cons_zero, List.set_cons_succ])
      refine wpAnyH_ready (rs := [2]) (by kernel_rfl) (by simp) ?_
      refine AllReadyH.cons rfl (fun K hK => ?_) AllReadyH.nil
      go_simp
      refine (out_cc bD 2 y2).mono ?_
      rintro e y3 ⟨rfl, kn⟩
      replace kq := kq.trans kn
      clear kn
      refine hK.out _ _ (hS4 _ kq) (fun hHeld3 => ?_)
      clear hK K
      (try simp only [Act.put, List.getElem_toArray, List.getElem_cons_zero, List.getElem_cons_succ, List.setIfInBounds_toArray, List.set_cons_zero, List.set_cons_succ])
      refine wpAnyH_ready (rs := [3]) (by kernel_rfl) (by simp) ?_
      refine AllReadyH.cons rfl (fun K hK => ?_) AllReadyH.nil
      go_simp
      obtain ⟨y4, hn⟩ : ∃ W, y3.alloc (.cells #[.bool false, .string bE, .int .i64 (-2), .bool true, .string bD, .int .i64 (2)] lT) = W := ⟨_, rfl⟩
      have kn : Kept y3 y4 := by rw [← hn]; exact (Kept.refl _).alloc _
      obtain ⟨ha, hqb⟩ : ∃ q, y3.heap.size = q := ⟨_, rfl⟩
      have HA := Lib.hid (show LysAt y4 (.slice (some ⟨ha, 0, none⟩) 2 2) [⟨false, bE, -2⟩, ⟨true, bD, 2⟩] from lys_lit2 (by rw [← hn, ← hqb]; exact Blk.new _ _ _) (small1 (by decide)) (small1 (by decide)))
      rw [hn, hqb]
      clear hn hqb
      replace kq := kq.trans kn
      clear kn
      refine hK.out _ _ (hS4 _ kq) (fun hHeld4 => ?_)
      clear hK K
      (try simp only [Act.put, List.getElem_toArray, List.getElem_cons_zero, List.getElem_cons_succ, List.setIfInBounds_toArray, List.set_cons_zero, List.set_cons_succ])
      refine wpAnyH_ready (rs := [4]) (by kernel_rfl) (by simp) ?_
      refine AllReadyH.cons rfl (fun K hK => ?_) AllReadyH.nil
      go_simp
      refine (obj_c bE (some ⟨ha, 0, none⟩) 2 2 y4).mono ?_
      rintro e y5 ⟨rfl, kn⟩
      replace HA := Lib.hid (lys_kept HA.out kn)
      replace kq := kq.trans kn
      clear kn
      refine hK.out _ _ (hS4 _ kq) (fun hHeld5 => ?_)
      clear hK K
      (try simp only [Act.put, List.getElem_toArray, List.getElem_cons_zero, List.getElem_cons_succ, List.setIfInBounds_toArray, List.set_cons_zero, List.set_cons_succ])
      refine wpAnyH_ready (rs := [5]) (by kernel_rfl) (by simp) ?_
      refine AllReadyH.cons rfl (fun K hK => ?_) AllReadyH.nil
      go_simp
      refine (cs1 ▸ casts_c (objW bE) none 0 [] bE bD 2 (objW bE) (some ⟨ha, 0, none⟩) 2 [⟨false, bE, -2⟩, ⟨true, bD, 2⟩] 0 y5 (HTb.out.kept (HKE.out.trans kq)) Row.nil HA.out (small1 (by decide)) (small1 (by decide)) (small1 (by decide)) (by decide)).mono ?_
      rintro e y6 ⟨rfl, kn⟩
      replace HA := Lib.hid (lys_kept HA.out kn)
      replace kq := kq.trans kn
      clear kn
      refine hK.out _ _ (hS4 _ kq) (fun hHeld6 => ?_)
      clear hK K
      (try simp only [Act.put, List.getElem_toArray, List.getElem_cons_zero, List.getElem_cons_succ, List.setIfInBounds_toArray, List.set_cons_zero, List.set_cons_succ])
      refine wpAnyH_take (i := 6) (v := ?_) rfl (by kernel_rfl) (by kernel_rfl) (by kernel_rfl) (fun _ _ _ h => h) (Or.inl ⟨by kernel_rfl, ?_⟩) (by assumption) ?_
      rotate_left
      · intro w hSw; (try dsimp only at hSw); go_simp; (try with_reducible rfl)
      (try simp only [Act.put, List.getElem_toArray, List.getElem_cons_zero, List.getElem_cons_succ, List.setIfInBounds_toArray, List.set_cons_zero, List.set_cons_succ])
      refine wpAnyH_take (i := 8) (v := ?_) rfl (by kernel_rfl) (by kernel_rfl) (by kernel_rfl) (fun _ _ _ h => h) (Or.inl ⟨by kernel_rfl, ?_⟩) (by assumption) ?_
      rotate_left
      · intro w hSw; (try dsimp only at hSw); go_simp; (try with_reducible rfl)
      (try simp only [Act.put, List.getElem_toArray, List.getElem_cons_zero, List.getElem_cons_succ, List.setIfInBounds_toArray, List.set_cons_zero, List.set_cons_succ])
      refine wpAnyH_ready (rs := [7]) (by kernel_rfl) (by simp) ?_
      refine AllReadyH.cons rfl (fun K hK => ?_) AllReadyH.nil
      go_simp
      refine (three_c y6).mono ?_
      rintro e y7 ⟨rfl, kn⟩
      replace HA := Lib.hid (lys_kept HA.out kn)
      replace kq := kq.trans kn
      clear kn
      refine hK.out _ _ (hS4 _ kq) (fun hHeld7 => ?_)
      clear hK K
      (try simp only [Act.put, List.getElem_toArray, List.getElem_cons_zero, List.getElem_cons_succ, List.setIfInBounds_toArray, List.set_cons_zero, List.set_cons_succ])
      refine wpAnyH_ready (rs := [9]) (by kernel_rfl) (by simp) ?_
      refine AllReadyH.cons rfl (fun K hK => ?_) AllReadyH.nil
      go_simp
      refine (cs2 ▸ casts_c threeW none 0 [] bq bstr 1 zW none 0 [] 1 y7 (HTb.out.kept (HKE.out.trans kq)) Row.nil Row.nil (small1 (by decide)) (small1 (by decide)) (small1 (by decide)) (by decide)).mono ?_
      rintro e y8 ⟨rfl, kn⟩
      replace HA := Lib.hid (lys_kept HA.out kn)
      replace kq := kq.trans kn
      clear kn
      refine hK.out _ _ (hS4 _ kq) (fun hHeld8 => ?_)
      clear hK K
      (try simp only [Act.put, List.getElem_toArray, List.getElem_cons_zero, List.getElem_cons_succ, List.setIfInBounds_toArray, List.set_cons_zero, List.set_cons_succ])
      refine wpAnyH_take (i := 10) (v := ?_) rfl (by kernel_rfl) (by kernel_rfl) (by kernel_rfl) (fun _ _ _ h => h) (Or.inl ⟨by kernel_rfl, ?_⟩) (by assumption) ?_
      rotate_left
      · intro w hSw; (try dsimp only at hSw); go_simp; (try with_reducible rfl)
      (try simp only [Act.put, List.getElem_toArray, List.getElem_cons_zero, List.getElem_cons_succ, List.setIfInBounds_toArray, List.set_cons_zero, List.set_cons_succ])
      refine wpAnyH_take (i := 11) (v := ?_) rfl (by kernel_rfl) (by kernel_rfl) (by kernel_rfl) (fun _ _ _ h => h) (Or.inl ⟨by kernel_rfl, ?_⟩) (by assumption) ?_
      rotate_left
      · intro w hSw; (try dsimp only at hSw); go_simp; (try with_reducible rfl)
      (try simp only [Act.put, List.getElem_toArray, List.getElem_cons_zero, List.getElem_cons_succ, List.setIfInBounds_toArray, List.set_cons_zero, List.set_cons_succ])
      refine wpAnyH_take (i := 15) (v := ?_) rfl (by kernel_rfl) (by kernel_rfl) (by kernel_rfl) (fun _ _ _ h => h) (Or.inl ⟨by kernel_rfl, ?_⟩) (by assumption) ?_
      rotate_left
      · intro w hSw; (try dsimp only at hSw); go_simp; (try with_reducible rfl)
      (try simp only [Act.put, List.getElem_toArray, List.getElem_cons_zero, List.getElem_cons_succ, List.setIfInBounds_toArray, List.set_cons_zero, List.set_cons_succ])
      refine wpAnyH_ready (rs := [12]) (by kernel_rfl) (by simp) ?_
      refine AllReadyH.cons rfl (fun K hK => ?_) AllReadyH.nil
      go_simp
      refine (in_c bD 1 y8).mono ?_
      rintro e y9 ⟨rfl, kn⟩
      replace HA := Lib.hid (lys_kept HA.out kn)
      replace kq := kq.trans kn
      clear kn
      refine hK.out _ _ (hS4 _ kq) (fun hHeld9 => ?_)
      clear hK K
      (try simp only [Act.put, List.getElem_toArray, List.getElem_cons_zero, List.getElem_cons_succ, List.setIfInBounds_toArray, List.set_cons_zero, List.set_cons_succ])
      refine wpAnyH_ready (rs := [13]) (by kernel_rfl) (by simp) ?_
      refine AllReadyH.cons rfl (fun K hK => ?_) AllReadyH.nil
      go_simp
      obtain ⟨y10, hn⟩ : ∃ W, y9.alloc (.cells #[.bool false, .string bD, .int .i64 (1)] lT) = W := ⟨_, rfl⟩
      have kn : Kept y9 y10 := by rw [← hn]; exact (Kept.refl _).alloc _
      obtain ⟨hb, hqb⟩ : ∃ q, y9.heap.size = q := ⟨_, rfl⟩
      have HB := Lib.hid (show LysAt y10 (.slice (some ⟨hb, 0, none⟩) 1 1) [⟨false, bD, 1⟩] from lys_lit1 (by rw [← hn, ← hqb]; exact Blk.new _ _ _) (small1 (by decide)))
      rw [hn, hqb]
      clear hn hqb
      replace HA := Lib.hid (lys_kept HA.out kn)
      replace kq := kq.trans kn
      clear kn
      refine hK.out _ _ (hS4 _ kq) (fun hHeld10 => ?_)
      clear hK K
      (try simp only [Act.put, List.getElem_toArray, List.getElem_cons_zero, List.getElem_cons_succ, List.setIfInBounds_toArray, List.set_cons_zero, List.set_cons_succ])
      refine wpAnyH_ready (rs := [14]) (by kernel_rfl) (by simp) ?_
      refine AllReadyH.cons rfl (fun K hK => ?_) AllReadyH.nil
      go_simp
      refine (obj_c bE (some ⟨hb, 0, none⟩) 1 1 y10).mono ?_
      rintro e y11 ⟨rfl, kn⟩
      replace HA := Lib.hid (lys_kept HA.out kn)
      replace HB := Lib.hid (lys_kept HB.out kn)
      replace kq := kq.trans kn
      clear kn
      refine hK.out _ _ (hS4 _ kq) (fun hHeld11 => ?_)
      clear hK K
      (try simp only [Act.put, List.getElem_toArray, List.getElem_cons_zero, List.getElem_cons_succ, List.setIfInBounds_toArray, List.set_cons_zero, List.set_cons_succ])
      refine wpAnyH_ready (rs := [16]) (by kernel_rfl) (by simp) ?_
      refine AllReadyH.cons rfl (fun K hK => ?_) AllReadyH.nil
      go_simp
      refine (es1 ▸ enters_c (objW bE) (some ⟨hb, 0, none⟩) 1 [⟨false, bD, 1⟩] bE 5 zW none 0 [] 5 y11 (HTb.out.kept (HKE.out.trans kq)) HB.out Row.nil (small1 (by decide)) (small1 (by decide)) (by decide)).mono ?_
      rintro e y12 ⟨rfl, kn⟩
      replace HA := Lib.hid (lys_kept HA.out kn)
      replace HB := Lib.hid (lys_kept HB.out kn)
      replace kq := kq.trans kn
      clear kn
      refine hK.out _ _ (hS4 _ kq) (fun hHeld12 => ?_)
      clear hK K
      (try simp only [Act.put, List.getElem_toArray, List.getElem_cons_zero, List.getElem_cons_succ, List.setIfInBounds_toArray, List.set_cons_zero, List.set_cons_succ])
      refine wpAnyH_take (i := 17) (v := ?_) rfl (by kernel_rfl) (by kernel_rfl) (by kernel_rfl) (fun _ _ _ h => h) (Or.inl ⟨by kernel_rfl, ?_⟩) (by assumption) ?_
      rotate_left
      · intro w hSw; (try dsimp only at hSw); go_simp; (try with_reducible rfl)
      (try simp only [Act.put, List.getElem_toArray, List.getElem_cons_zero, List.getElem_cons_succ, List.setIfInBounds_toArray, List.set_cons_zero, List.set_cons_succ])
      refine wpAnyH_take (i := 18) (v := ?_) rfl (by kernel_rfl) (by kernel_rfl) (by kernel_rfl) (fun _ _ _ h => h) (Or.inl ⟨by kernel_rfl, ?_⟩) (by assumption) ?_
      rotate_left
      · intro w hSw; (try dsimp only at hSw); go_simp; (try with_reducible rfl)
      (try simp only [Act.put, List.getElem_toArray, List.getElem_cons_zero, List.getElem_cons_succ, List.setIfInBounds_toArray, List.set_cons_zero, List.set_cons_succ])
      refine wpAnyH_take (i := 19) (v := ?_) rfl (by kernel_rfl) (by kernel_rfl) (by kernel_rfl) (fun _ _ _ h => h) (Or.inl ⟨by kernel_rfl, ?_⟩) (by assumption) ?_
      rotate_left
      · intro w hSw; (try dsimp only at hSw); go_simp; (try with_reducible rfl)
      (try simp only [Act.put, List.getElem_toArray, List.getElem_cons_zero, List.getElem_cons_succ, List.setIfInBounds_toArray, List.set_cons_zero, List.set_cons_succ])
      refine wpAnyH_take (i := 20) (v := ?_) rfl (by kernel_rfl) (by kernel_rfl) (by kernel_rfl) (fun _ _ _ h => h) (Or.inl ⟨by kernel_rfl, ?_⟩) (by assumption) ?_
      rotate_left
      · intro w hSw; (try dsimp only at hSw); go_simp; (try with_reducible rfl)
      (try simp only [Act.put, List.getElem_toArray, List.getElem_cons_zero, List.getElem_cons_succ, List.setIfInBounds_toArray, List.set_cons_zero, List.set_cons_succ])
      refine wpAnyH_take (i := 21) (v := ?_) rfl (by kernel_rfl) (by kernel_rfl) (by kernel_rfl) (fun _ _ _ h => h) (Or.inl ⟨by kernel_rfl, ?_⟩) (by assumption) ?_
      rotate_left
      · intro w hSw; (try dsimp only at hSw); go_simp; (try with_reducible rfl)
      (try simp only [Act.put, List.getElem_toArray, List.getElem_cons_zero, List.getElem_cons_succ, List.setIfInBounds_toArray, List.set_cons_zero, List.set_cons_succ])
      refine wpAnyH_take (i := 22) (v := ?_) rfl (by kernel_rfl) (by kernel_rfl) (by kernel_rfl) (fun _ _ _ h => h) (Or.inl ⟨by kernel_rfl, ?_⟩) (by assumption) ?_
      rotate_left
      · intro w hSw; (try dsimp only at hSw); go_simp; (try with_reducible rfl)
      (try simp only [Act.put, List.getElem_toArray, List.getElem_cons_zero, List.getElem_cons_succ, List.setIfInBounds_toArray, List.set_cons_zero, List.set_cons_succ])
      refine wpAnyH_take (i := 23) (v := ?_) rfl (by kernel_rfl) (by kernel_rfl) (by kernel_rfl) (fun _ _ _ h => h) (Or.inl ⟨by kernel_rfl, ?_⟩) (by assumption) ?_
      rotate_left
      · intro w hSw; (try dsimp only at hSw); go_simp; (try with_reducible rfl)
      (try simp only [Act.put, List.getElem_toArray, List.getElem_cons_zero, List.getElem_cons_succ, List.setIfInBounds_toArray, List.set_cons_zero, List.set_cons_succ])
      refine wpAnyH_ready (rs := [24]) (by kernel_rfl) (by simp) ?_
      refine AllReadyH.cons rfl (fun K hK => ?_) AllReadyH.nil
      go_simp
      refine (in_c bD (-1) y12).mono ?_
      rintro e y13 ⟨rfl, kn⟩
      replace HA := Lib.hid (lys_kept HA.out kn)
      replace HB := Lib.hid (lys_kept HB.out kn)
      replace kq := kq.trans kn
      clear kn
      refine hK.out _ _ (hS4 _ kq) (fun hHeld13 => ?_)
      clear hK K
      (try simp only [Act.put, List.getElem_toArray, List.getElem_cons_zero, List.getElem_cons_succ, List.setIfInBounds_toArray, List.set_cons_zero, List.set_cons_succ])
      refine wpAnyH_ready (rs := [25]) (by kernel_rfl) (by simp) ?_
      refine AllReadyH.cons rfl (fun K hK => ?_) AllReadyH.nil
      go_simp
      refine (out_cc bD 1 y13).mono ?_
      rintro e y14 ⟨rfl, kn⟩
      replace HA := Lib.hid (lys_kept HA.out kn)
      replace HB := Lib.hid (lys_kept HB.out kn)
      replace kq := kq.trans kn
      clear kn
      refine hK.out _ _ (hS4 _ kq) (fun hHeld14 => ?_)
      clear hK K
      (try simp only [Act.put, List.getElem_toArray, List.getElem_cons_zero, List.getElem_cons_succ, List.setIfInBounds_toArray, List.set_cons_zero, List.set_cons_succ])
      refine wpAnyH_ready (rs := [26]) (by kernel_rfl) (by simp) ?_
      refine AllReadyH.cons rfl (fun K hK => ?_) AllReadyH.nil
      go_simp
      obtain ⟨y15, hn⟩ : ∃ W, y14.alloc (.cells #[.bool false, .string bD, .int .i64 (-1), .bool true, .string bD, .int .i64 (1)] lT) = W := ⟨_, rfl⟩
      have kn : Kept y14 y15 := by rw [← hn]; exact (Kept.refl _).alloc _
      obtain ⟨hc, hqb⟩ : ∃ q, y14.heap.size = q := ⟨_, rfl⟩
      have HC := Lib.hid (show LysAt y15 (.slice (some ⟨hc, 0, none⟩) 2 2) [⟨false, bD, -1⟩, ⟨true, bD, 1⟩] from lys_lit2 (by rw [← hn, ← hqb]; exact Blk.new _ _ _) (small1 (by decide)) (small1 (by decide)))
      rw [hn, hqb]
      clear hn hqb
      replace HA := Lib.hid (lys_kept HA.out kn)
      replace HB := Lib.hid (lys_kept HB.out kn)
      replace kq := kq.trans kn
      clear kn
      refine hK.out _ _ (hS4 _ kq) (fun hHeld15 => ?_)
      clear hK K
      (try simp only [Act.put, List.getElem_toArray, List.getElem_cons_zero, List.getElem_cons_succ, List.setIfInBounds_toArray, List.set_cons_zero, List.set_cons_succ])
      refine wpAnyH_ready (rs := [27]) (by kernel_rfl) (by simp) ?_
      refine AllReadyH.cons rfl (fun K hK => ?_) AllReadyH.nil
      go_simp
      refine (obj_c bE (some ⟨hc, 0, none⟩) 2 2 y15).mono ?_
      rintro e y16 ⟨rfl, kn⟩
      replace HA := Lib.hid (lys_kept HA.out kn)
      replace HB := Lib.hid (lys_kept HB.out kn)
      replace HC := Lib.hid (lys_kept HC.out kn)
      replace kq := kq.trans kn
      clear kn
      refine hK.out _ _ (hS4 _ kq) (fun hHeld16 => ?_)
      clear hK K
      (try simp only [Act.put, List.getElem_toArray, List.getElem_cons_zero, List.getElem_cons_succ, List.setIfInBounds_toArray, List.set_cons_zero, List.set_cons_succ])
      refine wpAnyH_ready (rs := [28]) (by kernel_rfl) (by simp) ?_
      refine AllReadyH.cons rfl (fun K hK => ?_) AllReadyH.nil
      go_simp
      refine (sameV_y (objW bE) xL xa (some ⟨hc, 0, none⟩) xc 2 y16 (lys_kept HXL.out kq) HC.out).mono ?_
      rintro e y17 ⟨rfl, kn⟩
      replace HA := Lib.hid (lys_kept HA.out kn)
      replace HB := Lib.hid (lys_kept HB.out kn)
      replace HC := Lib.hid (lys_kept HC.out kn)
      replace kq := kq.trans kn
      clear kn
      refine hK.out _ _ (hS4 _ kq) (fun hHeld17 => ?_)
      clear hK K
      (try simp only [Act.put, List.getElem_toArray, List.getElem_cons_zero, List.getElem_cons_succ, List.setIfInBounds_toArray, List.set_cons_zero, List.set_cons_succ])
      refine wpAnyH_take (i := 29) (v := ?_) rfl (by kernel_rfl) (by kernel_rfl) (by kernel_rfl) (fun _ _ _ h => h) (Or.inl ⟨by kernel_rfl, ?_⟩) (by assumption) ?_
      rotate_left
      · intro w hSw; (try dsimp only at hSw); go_simp; (try with_reducible rfl)
      (try simp only [Act.put, List.getElem_toArray, List.getElem_cons_zero, List.getElem_cons_succ, List.setIfInBounds_toArray, List.set_cons_zero, List.set_cons_succ])
      refine wpAnyH_take (i := 30) (v := ?_) rfl (by kernel_rfl) (by kernel_rfl) (by kernel_rfl) (fun _ _ _ h => h) (Or.inl ⟨by kernel_rfl, ?_⟩) (by assumption) ?_
      rotate_left
      · intro w hSw; (try dsimp only at hSw); go_simp; (try with_reducible rfl)
      (try simp only [Act.put, List.getElem_toArray, List.getElem_cons_zero, List.getElem_cons_succ, List.setIfInBounds_toArray, List.set_cons_zero, List.set_cons_succ])
      refine wpAnyH_take (i := 31) (v := ?_) rfl (by kernel_rfl) (by kernel_rfl) (by kernel_rfl) (fun _ _ _ h => h) (Or.inl ⟨by kernel_rfl, ?_⟩) (by assumption) ?_
      rotate_left
      · intro w hSw; (try dsimp only at hSw); go_simp; (try with_reducible rfl)
      (try simp only [Act.put, List.getElem_toArray, List.getElem_cons_zero, List.getElem_cons_succ, List.setIfInBounds_toArray, List.set_cons_zero, List.set_cons_succ])
      refine wpAnyH_take (i := 32) (v := ?_) rfl (by kernel_rfl) (by kernel_rfl) (by kernel_rfl) (fun _ _ _ h => h) (Or.inl ⟨by kernel_rfl, ?_⟩) (by assumption) ?_
      rotate_left
      · intro w hSw; (try dsimp only at hSw); go_simp; (try with_reducible rfl)
      (try simp only [Act.put, List.getElem_toArray, List.getElem_cons_zero, List.getElem_cons_succ, List.setIfInBounds_toArray, List.set_cons_zero, List.set_cons_succ])
      refine wpAnyH_take (i := 33) (v := ?_) rfl (by kernel_rfl) (by kernel_rfl) (by kernel_rfl) (fun _ _ _ h => h) (Or.inl ⟨by kernel_rfl, ?_⟩) (by assumption) ?_
      rotate_left
      · intro w hSw; (try dsimp only at hSw); go_simp; (try with_reducible rfl)
      (try simp only [Act.put, List.getElem_toArray, List.getElem_cons_zero, List.getElem_cons_succ, List.setIfInBounds_toArray, List.set_cons_zero, List.set_cons_succ])
      refine wpAnyH_take (i := 34) (v := ?_) rfl (by kernel_rfl) (by kernel_rfl) (by kernel_rfl) (fun _ _ _ h => h) (Or.inl ⟨by kernel_rfl, ?_⟩) (by assumption) ?_
      rotate_left
      · intro w hSw; (try dsimp only at hSw); go_simp; (try with_reducible rfl)
      (try simp only [Act.put, List.getElem_toArray, List.getElem_cons_zero, List.getElem_cons_succ, List.setIfInBounds_toArray, List.set_cons_zero, List.set_cons_succ])
      refine wpAnyH_take (i := 35) (v := ?_) rfl (by kernel_rfl) (by kernel_rfl) (by kernel_rfl) (fun _ _ _ h => h) (Or.inl ⟨by kernel_rfl, ?_⟩) (by assumption) ?_
      rotate_left
      · intro w hSw; (try dsimp only at hSw); go_simp; (try with_reducible rfl)
      (try simp only [Act.put, List.getElem_toArray, List.getElem_cons_zero, List.getElem_cons_succ, List.setIfInBounds_toArray, List.set_cons_zero, List.set_cons_succ])
      refine wpAnyH_take (i := 36) (v := ?_) rfl (by kernel_rfl) (by kernel_rfl) (by kernel_rfl) (fun _ _ _ h => h) (Or.inl ⟨by kernel_rfl, ?_⟩) (by assumption) ?_
      rotate_left
      · intro w hSw; (try dsimp only at hSw); go_simp; (try with_reducible rfl)
      (try simp only [Act.put, List.getElem_toArray, List.getElem_cons_zero, List.getElem_cons_succ, List.setIfInBounds_toArray, List.set_cons_zero, List.set_cons_succ])
      refine wpAnyH_ready (rs := [37]) (by kernel_rfl) (by simp) ?_
      refine AllReadyH.cons rfl (fun K hK => ?_) AllReadyH.nil
      go_simp
      refine (sameV_y zW [] ya none yc 0 y17 (lys_kept HYL.out kq) Row.nil).mono ?_
      rintro e y18 ⟨rfl, kn⟩
      replace HA := Lib.hid (lys_kept HA.out kn)
      replace HB := Lib.hid (lys_kept HB.out kn)
      replace HC := Lib.hid (lys_kept HC.out kn)
      replace kq := kq.trans kn
      clear kn
      refine hK.out _ _ (hS4 _ kq) (fun hHeld18 => ?_)
      clear hK K
      (try simp only [Act.put, List.getElem_toArray, List.getElem_cons_zero, List.getElem_cons_succ, List.setIfInBounds_toArray, List.set_cons_zero, List.set_cons_succ])
      refine wpAnyH_take (i := 38) (v := ?_) rfl (by kernel_rfl) (by kernel_rfl) (by kernel_rfl) (fun _ _ _ h => h) (Or.inl ⟨by kernel_rfl, ?_⟩) (by assumption) ?_
      rotate_left
      · intro w hSw; (try dsimp only at hSw); go_simp; (try with_reducible rfl)
      (try simp only [Act.put, List.getElem_toArray, List.getElem_cons_zero, List.getElem_cons_succ, List.setIfInBounds_toArray, List.set_cons_zero, List.set_cons_succ])
      refine wpAnyH_take (i := 39) (v := ?_) rfl (by kernel_rfl) (by kernel_rfl) (by kernel_rfl) (fun _ _ _ h => h) (Or.inl ⟨by kernel_rfl, ?_⟩) (by assumption) ?_
      rotate_left
      · intro w hSw; (try dsimp only at hSw); go_simp; (try with_reducible rfl)
      (try simp only [Act.put, List.getElem_toArray, List.getElem_cons_zero, List.getElem_cons_succ, List.setIfInBounds_toArray, List.set_cons_zero, List.set_cons_succ])
      refine wpAnyH_done (by kernel_rfl) ?_ _
      go_wp2_with fail
      go_ret
      exact ⟨rfl, HKE.out.trans kq⟩
    rename_i J3 K3 hJ3 hK3
    have hS3 := fun W (k : Kept D2 W) => And.intro (k.cell p0) (And.intro (k.cell p1) (And.intro (k.cell p2) (And.intro (k.cell p3) (k.cell p4))))
    have hSK := hS3
    refine wp_region_held_drew (S := (fun W => W.cell? ⟨q1, 0, none⟩ = some (.int .i64 7) ∧ W.cell? ⟨q1, 1, none⟩ = some (.int .i64 1) ∧ W.cell? ⟨q1, 2, none⟩ = some (.int .u64 0) ∧ W.cell? ⟨q1, 3, none⟩ = some (.string bC) ∧ W.cell? ⟨q1, 4, none⟩ = some (.slice (some ⟨qc, 0, none⟩) 2 2))) (by kernel_rfl) (by rw [hD2]; exact hSK D2 (Kept.refl _)) (fun hHeld0 => ?_)
    rw [hD2] at hHeld0 ⊢
    clear hD2
    have kq : Kept D2 D2 := Kept.refl _
    refine wpAnyH_take (i := 1) (v := ?_) rfl (by kernel_rfl) (by kernel_rfl) (by kernel_rfl) (fun _ _ _ h => h) (Or.inl ⟨by kernel_rfl, ?_⟩) (by assumption) ?_
    rotate_left
    · intro w hSw; (try dsimp only at hSw); go_simp; (try with_reducible rfl)
    (try simp only [Act.put, List.getElem_toArray, List.getElem_cons_zero, List.getElem_cons_succ, List.setIfInBounds_toArray, List.set_cons_zero, List.set_cons_succ])
    refine wpAnyH_ready (rs := [0,7]) (by kernel_rfl) (by simp) ?_
    refine AllReadyH.cons rfl (fun K hK => ?_) (AllReadyH.cons rfl (fun K hK => ?_) AllReadyH.nil)
    · go_simp
      refine (some_c D2).mono ?_
      rintro e x1 ⟨ta, tcp, rfl, hT, kn⟩
      have HTB := Lib.hid hT
      clear hT
      replace kq := kq.trans kn
      clear kn
      refine hK.out _ _ (hSK _ kq) (fun hHeld1 => ?_)
      clear hK K
      (try simp only [Act.put, List.getElem_toArray, List.getElem_cons_zero, List.getElem_cons_succ, List.setIfInBounds_toArray, List.set_cons_zero, List.set_cons_succ])
      refine wpAnyH_ready (rs := [2,7]) (by kernel_rfl) (by simp) ?_
      refine AllReadyH.cons rfl (fun K hK => ?_) (AllReadyH.cons rfl (fun K hK => ?_) AllReadyH.nil)
      · go_simp
        refine (three_c x1).mono ?_
        rintro e x2 ⟨rfl, kn⟩
        replace HTB := Lib.hid (tab_kept HTB.out kn)
        replace kq := kq.trans kn
        clear kn
        refine hK.out _ _ (hSK _ kq) (fun hHeld2 => ?_)
        clear hK K
        (try simp only [Act.put, List.getElem_toArray, List.getElem_cons_zero, List.getElem_cons_succ, List.setIfInBounds_toArray, List.set_cons_zero, List.set_cons_succ])
        refine wpAnyH_ready (rs := [3,7]) (by kernel_rfl) (by simp) ?_
        refine AllReadyH.cons rfl (fun K hK => ?_) (AllReadyH.cons rfl (fun K hK => ?_) AllReadyH.nil)
        · go_simp
          refine (iw_c ta tcp qc x2 HTB.out (HTb.out.kept (HKD2.out.trans kq)) (lys_kept HCD2.out kq)).mono ?_
          rintro e x3 ⟨ca, cc, rfl, hly, kn⟩
          have HAN := Lib.hid hly
          clear hly
          replace HTB := Lib.hid (tab_kept HTB.out kn)
          replace kq := kq.trans kn
          clear kn
          refine hK.out _ _ (hSK _ kq) (fun hHeld3 => ?_)
          clear hK K
          (try simp only [Act.put, List.getElem_toArray, List.getElem_cons_zero, List.getElem_cons_succ, List.setIfInBounds_toArray, List.set_cons_zero, List.set_cons_succ])
          refine wpAnyH_take (i := 4) (v := ?_) rfl (by kernel_rfl) (by kernel_rfl) (by kernel_rfl) (fun _ _ _ h => h) (Or.inl ⟨by kernel_rfl, ?_⟩) (by assumption) ?_
          rotate_left
          · intro w hSw; (try dsimp only at hSw); go_simp; (try with_reducible rfl)
          (try simp only [Act.put, List.getElem_toArray, List.getElem_cons_zero, List.getElem_cons_succ, List.setIfInBounds_toArray, List.set_cons_zero, List.set_cons_succ])
          refine wpAnyH_take (i := 5) (v := ?_) rfl (by kernel_rfl) (by kernel_rfl) (by kernel_rfl) (fun _ _ _ h => h) (Or.inl ⟨by kernel_rfl, ?_⟩) (by assumption) ?_
          rotate_left
          · intro w hSw; (try dsimp only at hSw); go_simp; (try with_reducible rfl)
          (try simp only [Act.put, List.getElem_toArray, List.getElem_cons_zero, List.getElem_cons_succ, List.setIfInBounds_toArray, List.set_cons_zero, List.set_cons_succ])
          refine wpAnyH_take (i := 6) (v := ?_) rfl (by kernel_rfl) (by kernel_rfl) (by kernel_rfl) (fun _ _ _ h => h) (Or.inl ⟨by kernel_rfl, ?_⟩) (by assumption) ?_
          rotate_left
          · intro w hSw; (try dsimp only at hSw); go_simp; (try with_reducible rfl)
          (try simp only [Act.put, List.getElem_toArray, List.getElem_cons_zero, List.getElem_cons_succ, List.setIfInBounds_toArray, List.set_cons_zero, List.set_cons_succ])
          refine wpAnyH_ready (rs := [7]) (by kernel_rfl) (by simp) ?_
          refine AllReadyH.cons rfl (fun K hK => ?_) AllReadyH.nil
          go_simp
          obtain ⟨x4, hn⟩ : ∃ W, x3.alloc (.cells uZ uT) = W := ⟨_, rfl⟩
          have kn : Kept x3 x4 := by rw [← hn]; exact (Kept.refl _).alloc _
          obtain ⟨qb, hqb⟩ : ∃ q, x3.heap.size = q := ⟨_, rfl⟩
          have HQ := Lib.hid (show Blk x4 qb uT uZ by rw [← hn, ← hqb]; exact Blk.new _ _ _)
          have HQB := Lib.hid (show D2.heap.size ≤ qb by rw [← hqb]; exact kq.size)
          rw [hn, hqb]
          clear hn hqb
          replace HTB := Lib.hid (tab_kept HTB.out kn)
          replace HAN := Lib.hid (lys_kept HAN.out kn)
          replace kq := kq.trans kn
          clear kn
          refine hK.out _ _ (hSK _ kq) (fun hHeld4 => ?_)
          clear hK K
          (try simp only [Act.put, List.getElem_toArray, List.getElem_cons_zero, List.getElem_cons_succ, List.setIfInBounds_toArray, List.set_cons_zero, List.set_cons_succ])
          obtain ⟨⟨g0, g1, g2, g3, g4⟩, f0, f1, f2, f3, f4⟩ := blk5u HQ.out
          obtain ⟨Y, hY⟩ : ∃ Y, put5u x4 qb (.int .i64 zW.tag) (.int .i64 zW.n) (.int .u64 zW.bits) (.string zW.s) (.slice ca ([] : List Ly).length cc) = Y := ⟨_, rfl⟩
          have oY : Only (· = qb) x4 Y := by rw [← hY]; exact put5u_only _ _ _ _ _ _ _
          have bY : Blk Y qb uT #[.int .i64 zW.tag, .int .i64 zW.n, .int .u64 zW.bits, .string zW.s, .slice ca ([] : List Ly).length cc] := by rw [← hY]; exact put5u_blk HQ.out _ _ _ _ _
          have hkY : Kept D2 Y := kq.only oY rfl (fun k e => by have := HQB.out; omega)
          have hlY : LysAt Y (.slice ca ([] : List Ly).length cc) ([] : List Ly) := lys_put HAN.out HQ.out oY
          have HWY := Lib.hid (show ((((x4.setCell ⟨qb, 0, none⟩ (.int .i64 0)).setCell ⟨qb, 1, none⟩ (.int .i64 0)).setCell ⟨qb, 2, none⟩ (.int .u64 0)).setCell ⟨qb, 3, none⟩ (.string e0w)).setCell ⟨qb, 4, none⟩ (.slice ca 0 cc) = Y from hY)
          have HF := Lib.hid (And.intro bY (And.intro hlY hkY))
          refine wpAnyH_ready (rs := [8]) (by kernel_rfl) (by simp) ?_
          refine AllReadyH.cons rfl (fun K hK => ?_) AllReadyH.nil
          go_simp
          clear bY hlY oY
          rw [HWY.out]
          refine hK.out _ _ (hSK _ hkY) (fun hHeldZ => ?_)
          clear hK K
          (try simp only [Act.put, List.getElem_toArray, List.getElem_cons_zero, List.getElem_cons_succ, List.setIfInBounds_toArray, List.set_cons_zero, List.set_cons_succ])
          refine wpAnyH_take (i := 9) (v := ?_) rfl (by kernel_rfl) (by kernel_rfl) (by kernel_rfl) (fun _ _ _ h => h) (Or.inl ⟨by kernel_rfl, ?_⟩) (by assumption) ?_
          rotate_left
          · intro w hSw; (try dsimp only at hSw); go_simp; (try with_reducible rfl)
          (try simp only [Act.put, List.getElem_toArray, List.getElem_cons_zero, List.getElem_cons_succ, List.setIfInBounds_toArray, List.set_cons_zero, List.set_cons_succ])
          refine wpAnyH_done (by kernel_rfl) ?_ _
          first | refine hK3 _ _ (Met.intro (hJ3 _ _ ?_)) | refine Met.intro (hJ3 _ _ ?_)
          repeat apply Exists.intro
          refine ⟨?rel, rfl⟩
          case rel => exact ⟨qb, ca, cc, rfl, rfl, Lib.hid HF.out.1, Lib.hid HF.out.2.1, Lib.hid HF.out.2.2⟩
        · go_simp
          obtain ⟨x5, hn⟩ : ∃ W, x2.alloc (.cells uZ uT) = W := ⟨_, rfl⟩
          have kn : Kept x2 x5 := by rw [← hn]; exact (Kept.refl _).alloc _
          obtain ⟨qb, hqb⟩ : ∃ q, x2.heap.size = q := ⟨_, rfl⟩
          have HQ := Lib.hid (show Blk x5 qb uT uZ by rw [← hn, ← hqb]; exact Blk.new _ _ _)
          have HQB := Lib.hid (show D2.heap.size ≤ qb by rw [← hqb]; exact kq.size)
          rw [hn, hqb]
          clear hn hqb
          replace HTB := Lib.hid (tab_kept HTB.out kn)
          replace kq := kq.trans kn
          clear kn
          refine hK.out _ _ (hSK _ kq) (fun hHeld5 => ?_)
          clear hK K
          (try simp only [Act.put, List.getElem_toArray, List.getElem_cons_zero, List.getElem_cons_succ, List.setIfInBounds_toArray, List.set_cons_zero, List.set_cons_succ])
          refine wpAnyH_ready (rs := [3]) (by kernel_rfl) (by simp) ?_
          refine AllReadyH.cons rfl (fun K hK => ?_) AllReadyH.nil
          go_simp
          refine (iw_c ta tcp qc x5 HTB.out (HTb.out.kept (HKD2.out.trans kq)) (lys_kept HCD2.out kq)).mono ?_
          rintro e x6 ⟨ca, cc, rfl, hly, kn⟩
          have HAN := Lib.hid hly
          clear hly
          replace HQ := Lib.hid (HQ.out.kept kn)
          replace HTB := Lib.hid (tab_kept HTB.out kn)
          replace kq := kq.trans kn
          clear kn
          refine hK.out _ _ (hSK _ kq) (fun hHeld6 => ?_)
          clear hK K
          (try simp only [Act.put, List.getElem_toArray, List.getElem_cons_zero, List.getElem_cons_succ, List.setIfInBounds_toArray, List.set_cons_zero, List.set_cons_succ])
          refine wpAnyH_take (i := 4) (v := ?_) rfl (by kernel_rfl) (by kernel_rfl) (by kernel_rfl) (fun _ _ _ h => h) (Or.inl ⟨by kernel_rfl, ?_⟩) (by assumption) ?_
          rotate_left
          · intro w hSw; (try dsimp only at hSw); go_simp; (try with_reducible rfl)
          (try simp only [Act.put, List.getElem_toArray, List.getElem_cons_zero, List.getElem_cons_succ, List.setIfInBounds_toArray, List.set_cons_zero, List.set_cons_succ])
          refine wpAnyH_take (i := 5) (v := ?_) rfl (by kernel_rfl) (by kernel_rfl) (by kernel_rfl) (fun _ _ _ h => h) (Or.inl ⟨by kernel_rfl, ?_⟩) (by assumption) ?_
          rotate_left
          · intro w hSw; (try dsimp only at hSw); go_simp; (try with_reducible rfl)
          (try simp only [Act.put, List.getElem_toArray, List.getElem_cons_zero, List.getElem_cons_succ, List.setIfInBounds_toArray, List.set_cons_zero, List.set_cons_succ])
          refine wpAnyH_take (i := 6) (v := ?_) rfl (by kernel_rfl) (by kernel_rfl) (by kernel_rfl) (fun _ _ _ h => h) (Or.inl ⟨by kernel_rfl, ?_⟩) (by assumption) ?_
          rotate_left
          · intro w hSw; (try dsimp only at hSw); go_simp; (try with_reducible rfl)
          (try simp only [Act.put, List.getElem_toArray, List.getElem_cons_zero, List.getElem_cons_succ, List.setIfInBounds_toArray, List.set_cons_zero, List.set_cons_succ])
          obtain ⟨⟨g0, g1, g2, g3, g4⟩, f0, f1, f2, f3, f4⟩ := blk5u HQ.out
          obtain ⟨Y, hY⟩ : ∃ Y, put5u x6 qb (.int .i64 zW.tag) (.int .i64 zW.n) (.int .u64 zW.bits) (.string zW.s) (.slice ca ([] : List Ly).length cc) = Y := ⟨_, rfl⟩
          have oY : Only (· = qb) x6 Y := by rw [← hY]; exact put5u_only _ _ _ _ _ _ _
          have bY : Blk Y qb uT #[.int .i64 zW.tag, .int .i64 zW.n, .int .u64 zW.bits, .string zW.s, .slice ca ([] : List Ly).length cc] := by rw [← hY]; exact put5u_blk HQ.out _ _ _ _ _
          have hkY : Kept D2 Y := kq.only oY rfl (fun k e => by have := HQB.out; omega)
          have hlY : LysAt Y (.slice ca ([] : List Ly).length cc) ([] : List Ly) := lys_put HAN.out HQ.out oY
          have HWY := Lib.hid (show ((((x6.setCell ⟨qb, 0, none⟩ (.int .i64 0)).setCell ⟨qb, 1, none⟩ (.int .i64 0)).setCell ⟨qb, 2, none⟩ (.int .u64 0)).setCell ⟨qb, 3, none⟩ (.string e0w)).setCell ⟨qb, 4, none⟩ (.slice ca 0 cc) = Y from hY)
          have HF := Lib.hid (And.intro bY (And.intro hlY hkY))
          refine wpAnyH_ready (rs := [8]) (by kernel_rfl) (by simp) ?_
          refine AllReadyH.cons rfl (fun K hK => ?_) AllReadyH.nil
          go_simp
          clear bY hlY oY
          rw [HWY.out]
          refine hK.out _ _ (hSK _ hkY) (fun hHeldZ => ?_)
          clear hK K
          (try simp only [Act.put, List.getElem_toArray, List.getElem_cons_zero, List.getElem_cons_succ, List.setIfInBounds_toArray, List.set_cons_zero, List.set_cons_succ])
          refine wpAnyH_take (i := 9) (v := ?_) rfl (by kernel_rfl) (by kernel_rfl) (by kernel_rfl) (fun _ _ _ h => h) (Or.inl ⟨by kernel_rfl, ?_⟩) (by assumption) ?_
          rotate_left
          · intro w hSw; (try dsimp only at hSw); go_simp; (try with_reducible rfl)
          (try simp only [Act.put, List.getElem_toArray, List.getElem_cons_zero, List.getElem_cons_succ, List.setIfInBounds_toArray, List.set_cons_zero, List.set_cons_succ])
          refine wpAnyH_done (by kernel_rfl) ?_ _
          first | refine hK3 _ _ (Met.intro (hJ3 _ _ ?_)) | refine Met.intro (hJ3 _ _ ?_)
          repeat apply Exists.intro
          refine ⟨?rel, rfl⟩
          case rel => exact ⟨qb, ca, cc, rfl, rfl, Lib.hid HF.out.1, Lib.hid HF.out.2.1, Lib.hid HF.out.2.2⟩
      · go_simp
        obtain ⟨x7, hn⟩ : ∃ W, x1.alloc (.cells uZ uT) = W := ⟨_, rfl⟩
        have kn : Kept x1 x7 := by rw [← hn]; exact (Kept.refl _).alloc _
        obtain ⟨qb, hqb⟩ : ∃ q, x1.heap.size = q := ⟨_, rfl⟩
        have HQ := Lib.hid (show Blk x7 qb uT uZ by rw [← hn, ← hqb]; exact Blk.new _ _ _)
        have HQB := Lib.hid (show D2.heap.size ≤ qb by rw [← hqb]; exact kq.size)
        rw [hn, hqb]
        clear hn hqb
        replace HTB := Lib.hid (tab_kept HTB.out kn)
        replace kq := kq.trans kn
        clear kn
        refine hK.out _ _ (hSK _ kq) (fun hHeld7 => ?_)
        clear hK K
        (try simp only [Act.put, List.getElem_toArray, List.getElem_cons_zero, List.getElem_cons_succ, List.setIfInBounds_toArray, List.set_cons_zero, List.set_cons_succ])
        refine wpAnyH_ready (rs := [2]) (by kernel_rfl) (by simp) ?_
        refine AllReadyH.cons rfl (fun K hK => ?_) AllReadyH.nil
        go_simp
        refine (three_c x7).mono ?_
        rintro e x8 ⟨rfl, kn⟩
        replace HQ := Lib.hid (HQ.out.kept kn)
        replace HTB := Lib.hid (tab_kept HTB.out kn)
        replace kq := kq.trans kn
        clear kn
        refine hK.out _ _ (hSK _ kq) (fun hHeld8 => ?_)
        clear hK K
        (try simp only [Act.put, List.getElem_toArray, List.getElem_cons_zero, List.getElem_cons_succ, List.setIfInBounds_toArray, List.set_cons_zero, List.set_cons_succ])
        refine wpAnyH_ready (rs := [3]) (by kernel_rfl) (by simp) ?_
        refine AllReadyH.cons rfl (fun K hK => ?_) AllReadyH.nil
        go_simp
        refine (iw_c ta tcp qc x8 HTB.out (HTb.out.kept (HKD2.out.trans kq)) (lys_kept HCD2.out kq)).mono ?_
        rintro e x9 ⟨ca, cc, rfl, hly, kn⟩
        have HAN := Lib.hid hly
        clear hly
        replace HQ := Lib.hid (HQ.out.kept kn)
        replace HTB := Lib.hid (tab_kept HTB.out kn)
        replace kq := kq.trans kn
        clear kn
        refine hK.out _ _ (hSK _ kq) (fun hHeld9 => ?_)
        clear hK K
        (try simp only [Act.put, List.getElem_toArray, List.getElem_cons_zero, List.getElem_cons_succ, List.setIfInBounds_toArray, List.set_cons_zero, List.set_cons_succ])
        refine wpAnyH_take (i := 4) (v := ?_) rfl (by kernel_rfl) (by kernel_rfl) (by kernel_rfl) (fun _ _ _ h => h) (Or.inl ⟨by kernel_rfl, ?_⟩) (by assumption) ?_
        rotate_left
        · intro w hSw; (try dsimp only at hSw); go_simp; (try with_reducible rfl)
        (try simp only [Act.put, List.getElem_toArray, List.getElem_cons_zero, List.getElem_cons_succ, List.setIfInBounds_toArray, List.set_cons_zero, List.set_cons_succ])
        refine wpAnyH_take (i := 5) (v := ?_) rfl (by kernel_rfl) (by kernel_rfl) (by kernel_rfl) (fun _ _ _ h => h) (Or.inl ⟨by kernel_rfl, ?_⟩) (by assumption) ?_
        rotate_left
        · intro w hSw; (try dsimp only at hSw); go_simp; (try with_reducible rfl)
        (try simp only [Act.put, List.getElem_toArray, List.getElem_cons_zero, List.getElem_cons_succ, List.setIfInBounds_toArray, List.set_cons_zero, List.set_cons_succ])
        refine wpAnyH_take (i := 6) (v := ?_) rfl (by kernel_rfl) (by kernel_rfl) (by kernel_rfl) (fun _ _ _ h => h) (Or.inl ⟨by kernel_rfl, ?_⟩) (by assumption) ?_
        rotate_left
        · intro w hSw; (try dsimp only at hSw); go_simp; (try with_reducible rfl)
        (try simp only [Act.put, List.getElem_toArray, List.getElem_cons_zero, List.getElem_cons_succ, List.setIfInBounds_toArray, List.set_cons_zero, List.set_cons_succ])
        obtain ⟨⟨g0, g1, g2, g3, g4⟩, f0, f1, f2, f3, f4⟩ := blk5u HQ.out
        obtain ⟨Y, hY⟩ : ∃ Y, put5u x9 qb (.int .i64 zW.tag) (.int .i64 zW.n) (.int .u64 zW.bits) (.string zW.s) (.slice ca ([] : List Ly).length cc) = Y := ⟨_, rfl⟩
        have oY : Only (· = qb) x9 Y := by rw [← hY]; exact put5u_only _ _ _ _ _ _ _
        have bY : Blk Y qb uT #[.int .i64 zW.tag, .int .i64 zW.n, .int .u64 zW.bits, .string zW.s, .slice ca ([] : List Ly).length cc] := by rw [← hY]; exact put5u_blk HQ.out _ _ _ _ _
        have hkY : Kept D2 Y := kq.only oY rfl (fun k e => by have := HQB.out; omega)
        have hlY : LysAt Y (.slice ca ([] : List Ly).length cc) ([] : List Ly) := lys_put HAN.out HQ.out oY
        have HWY := Lib.hid (show ((((x9.setCell ⟨qb, 0, none⟩ (.int .i64 0)).setCell ⟨qb, 1, none⟩ (.int .i64 0)).setCell ⟨qb, 2, none⟩ (.int .u64 0)).setCell ⟨qb, 3, none⟩ (.string e0w)).setCell ⟨qb, 4, none⟩ (.slice ca 0 cc) = Y from hY)
        have HF := Lib.hid (And.intro bY (And.intro hlY hkY))
        refine wpAnyH_ready (rs := [8]) (by kernel_rfl) (by simp) ?_
        refine AllReadyH.cons rfl (fun K hK => ?_) AllReadyH.nil
        go_simp
        clear bY hlY oY
        rw [HWY.out]
        refine hK.out _ _ (hSK _ hkY) (fun hHeldZ => ?_)
        clear hK K
        (try simp only [Act.put, List.getElem_toArray, List.getElem_cons_zero, List.getElem_cons_succ, List.setIfInBounds_toArray, List.set_cons_zero, List.set_cons_succ])
        refine wpAnyH_take (i := 9) (v := ?_) rfl (by kernel_rfl) (by kernel_rfl) (by kernel_rfl) (fun _ _ _ h => h) (Or.inl ⟨by kernel_rfl, ?_⟩) (by assumption) ?_
        rotate_left
        · intro w hSw; (try dsimp only at hSw); go_simp; (try with_reducible rfl)
        (try simp only [Act.put, List.getElem_toArray, List.getElem_cons_zero, List.getElem_cons_succ, List.setIfInBounds_toArray, List.set_cons_zero, List.set_cons_succ])
        refine wpAnyH_done (by kernel_rfl) ?_ _
        first | refine hK3 _ _ (Met.intro (hJ3 _ _ ?_)) | refine Met.intro (hJ3 _ _ ?_)
        repeat apply Exists.intro
        refine ⟨?rel, rfl⟩
        case rel => exact ⟨qb, ca, cc, rfl, rfl, Lib.hid HF.out.1, Lib.hid HF.out.2.1, Lib.hid HF.out.2.2⟩
    · go_simp
      obtain ⟨x10, hn⟩ : ∃ W, D2.alloc (.cells uZ uT) = W := ⟨_, rfl⟩
      have kn : Kept D2 x10 := by rw [← hn]; exact (Kept.refl _).alloc _
      obtain ⟨qb, hqb⟩ : ∃ q, D2.heap.size = q := ⟨_, rfl⟩
      have HQ := Lib.hid (show Blk x10 qb uT uZ by rw [← hn, ← hqb]; exact Blk.new _ _ _)
      have HQB := Lib.hid (show D2.heap.size ≤ qb by rw [← hqb]; exact kq.size)
      rw [hn, hqb]
      clear hn hqb
      replace kq := kq.trans kn
      clear kn
      refine hK.out _ _ (hSK _ kq) (fun hHeld10 => ?_)
      clear hK K
      (try simp only [Act.put, List.getElem_toArray, List.getElem_cons_zero, List.getElem_cons_succ, List.setIfInBounds_toArray, List.set_cons_zero, List.set_cons_succ])
      refine wpAnyH_ready (rs := [0]) (by kernel_rfl) (by simp) ?_
      refine AllReadyH.cons rfl (fun K hK => ?_) AllReadyH.nil
      go_simp
      refine (some_c x10).mono ?_
      rintro e x11 ⟨ta, tcp, rfl, hT, kn⟩
      have HTB := Lib.hid hT
      clear hT
      replace HQ := Lib.hid (HQ.out.kept kn)
      replace kq := kq.trans kn
      clear kn
      refine hK.out _ _ (hSK _ kq) (fun hHeld11 => ?_)
      clear hK K
      (try simp only [Act.put, List.getElem_toArray, List.getElem_cons_zero, List.getElem_cons_succ, List.setIfInBounds_toArray, List.set_cons_zero, List.set_cons_succ])
      refine wpAnyH_ready (rs := [2]) (by kernel_rfl) (by simp) ?_
      refine AllReadyH.cons rfl (fun K hK => ?_) AllReadyH.nil
      go_simp
      refine (three_c x11).mono ?_
      rintro e x12 ⟨rfl, kn⟩
      replace HQ := Lib.hid (HQ.out.kept kn)
      replace HTB := Lib.hid (tab_kept HTB.out kn)
      replace kq := kq.trans kn
      clear kn
      refine hK.out _ _ (hSK _ kq) (fun hHeld12 => ?_)
      clear hK K
      (try simp only [Act.put, List.getElem_toArray, List.getElem_cons_zero, List.getElem_cons_succ, List.setIfInBounds_toArray, List.set_cons_zero, List.set_cons_succ])
      refine wpAnyH_ready (rs := [3]) (by kernel_rfl) (by simp) ?_
      refine AllReadyH.cons rfl (fun K hK => ?_) AllReadyH.nil
      go_simp
      refine (iw_c ta tcp qc x12 HTB.out (HTb.out.kept (HKD2.out.trans kq)) (lys_kept HCD2.out kq)).mono ?_
      rintro e x13 ⟨ca, cc, rfl, hly, kn⟩
      have HAN := Lib.hid hly
      clear hly
      replace HQ := Lib.hid (HQ.out.kept kn)
      replace HTB := Lib.hid (tab_kept HTB.out kn)
      replace kq := kq.trans kn
      clear kn
      refine hK.out _ _ (hSK _ kq) (fun hHeld13 => ?_)
      clear hK K
      (try simp only [Act.put, List.getElem_toArray, List.getElem_cons_zero, List.getElem_cons_succ, List.setIfInBounds_toArray, List.set_cons_zero, List.set_cons_succ])
      refine wpAnyH_take (i := 4) (v := ?_) rfl (by kernel_rfl) (by kernel_rfl) (by kernel_rfl) (fun _ _ _ h => h) (Or.inl ⟨by kernel_rfl, ?_⟩) (by assumption) ?_
      rotate_left
      · intro w hSw; (try dsimp only at hSw); go_simp; (try with_reducible rfl)
      (try simp only [Act.put, List.getElem_toArray, List.getElem_cons_zero, List.getElem_cons_succ, List.setIfInBounds_toArray, List.set_cons_zero, List.set_cons_succ])
      refine wpAnyH_take (i := 5) (v := ?_) rfl (by kernel_rfl) (by kernel_rfl) (by kernel_rfl) (fun _ _ _ h => h) (Or.inl ⟨by kernel_rfl, ?_⟩) (by assumption) ?_
      rotate_left
      · intro w hSw; (try dsimp only at hSw); go_simp; (try with_reducible rfl)
      (try simp only [Act.put, List.getElem_toArray, List.getElem_cons_zero, List.getElem_cons_succ, List.setIfInBounds_toArray, List.set_cons_zero, List.set_cons_succ])
      refine wpAnyH_take (i := 6) (v := ?_) rfl (by kernel_rfl) (by kernel_rfl) (by kernel_rfl) (fun _ _ _ h => h) (Or.inl ⟨by kernel_rfl, ?_⟩) (by assumption) ?_
      rotate_left
      · intro w hSw; (try dsimp only at hSw); go_simp; (try with_reducible rfl)
      (try simp only [Act.put, List.getElem_toArray, List.getElem_cons_zero, List.getElem_cons_succ, List.setIfInBounds_toArray, List.set_cons_zero, List.set_cons_succ])
      obtain ⟨⟨g0, g1, g2, g3, g4⟩, f0, f1, f2, f3, f4⟩ := blk5u HQ.out
      obtain ⟨Y, hY⟩ : ∃ Y, put5u x13 qb (.int .i64 zW.tag) (.int .i64 zW.n) (.int .u64 zW.bits) (.string zW.s) (.slice ca ([] : List Ly).length cc) = Y := ⟨_, rfl⟩
      have oY : Only (· = qb) x13 Y := by rw [← hY]; exact put5u_only _ _ _ _ _ _ _
      have bY : Blk Y qb uT #[.int .i64 zW.tag, .int .i64 zW.n, .int .u64 zW.bits, .string zW.s, .slice ca ([] : List Ly).length cc] := by rw [← hY]; exact put5u_blk HQ.out _ _ _ _ _
      have hkY : Kept D2 Y := kq.only oY rfl (fun k e => by have := HQB.out; omega)
      have hlY : LysAt Y (.slice ca ([] : List Ly).length cc) ([] : List Ly) := lys_put HAN.out HQ.out oY
      have HWY := Lib.hid (show ((((x13.setCell ⟨qb, 0, none⟩ (.int .i64 0)).setCell ⟨qb, 1, none⟩ (.int .i64 0)).setCell ⟨qb, 2, none⟩ (.int .u64 0)).setCell ⟨qb, 3, none⟩ (.string e0w)).setCell ⟨qb, 4, none⟩ (.slice ca 0 cc) = Y from hY)
      have HF := Lib.hid (And.intro bY (And.intro hlY hkY))
      refine wpAnyH_ready (rs := [8]) (by kernel_rfl) (by simp) ?_
      refine AllReadyH.cons rfl (fun K hK => ?_) AllReadyH.nil
      go_simp
      clear bY hlY oY
      rw [HWY.out]
      refine hK.out _ _ (hSK _ hkY) (fun hHeldZ => ?_)
      clear hK K
      (try simp only [Act.put, List.getElem_toArray, List.getElem_cons_zero, List.getElem_cons_succ, List.setIfInBounds_toArray, List.set_cons_zero, List.set_cons_succ])
      refine wpAnyH_take (i := 9) (v := ?_) rfl (by kernel_rfl) (by kernel_rfl) (by kernel_rfl) (fun _ _ _ h => h) (Or.inl ⟨by kernel_rfl, ?_⟩) (by assumption) ?_
      rotate_left
      · intro w hSw; (try dsimp only at hSw); go_simp; (try with_reducible rfl)
      (try simp only [Act.put, List.getElem_toArray, List.getElem_cons_zero, List.getElem_cons_succ, List.setIfInBounds_toArray, List.set_cons_zero, List.set_cons_succ])
      refine wpAnyH_done (by kernel_rfl) ?_ _
      first | refine hK3 _ _ (Met.intro (hJ3 _ _ ?_)) | refine Met.intro (hJ3 _ _ ?_)
      repeat apply Exists.intro
      refine ⟨?rel, rfl⟩
      case rel => exact ⟨qb, ca, cc, rfl, rfl, Lib.hid HF.out.1, Lib.hid HF.out.2.1, Lib.hid HF.out.2.2⟩
  rename_i J2 K2 hJ2 hK2
  have hS2 := fun W (k : Kept D W) => And.intro (k.cell p0) (And.intro (k.cell p1) (And.intro (k.cell p2) (And.intro (k.cell p3) (k.cell p4))))
  have hSK := hS2
  refine wp_region_held_drew (S := (fun W => W.cell? ⟨q1, 0, none⟩ = some (.int .i64 7) ∧ W.cell? ⟨q1, 1, none⟩ = some (.int .i64 1) ∧ W.cell? ⟨q1, 2, none⟩ = some (.int .u64 0) ∧ W.cell? ⟨q1, 3, none⟩ = some (.string bC) ∧ W.cell? ⟨q1, 4, none⟩ = some (.slice (some ⟨qc, 0, none⟩) 2 2))) (by kernel_rfl) (by rw [hD]; exact hSK D (Kept.refl _)) (fun hHeld0 => ?_)
  rw [hD] at hHeld0 ⊢
  clear hD
  have kq : Kept D D := Kept.refl _
  refine wpAnyH_take (i := 1) (v := ?_) rfl (by kernel_rfl) (by kernel_rfl) (by kernel_rfl) (fun _ _ _ h => h) (Or.inl ⟨by kernel_rfl, ?_⟩) (by assumption) ?_
  rotate_left
  · intro w hSw; (try dsimp only at hSw); go_simp; (try with_reducible rfl)
  (try simp only [Act.put, List.getElem_toArray, List.getElem_cons_zero, List.getElem_cons_succ, List.setIfInBounds_toArray, List.set_cons_zero, List.set_cons_succ])
  refine wpAnyH_ready (rs := [0,7]) (by kernel_rfl) (by simp) ?_
  refine AllReadyH.cons rfl (fun K hK => ?_) (AllReadyH.cons rfl (fun K hK => ?_) AllReadyH.nil)
  · go_simp
    refine (some_c D).mono ?_
    rintro e x1 ⟨ta, tcp, rfl, hT, kn⟩
    have HTB := Lib.hid hT
    clear hT
    replace kq := kq.trans kn
    clear kn
    refine hK.out _ _ (hSK _ kq) (fun hHeld1 => ?_)
    clear hK K
    (try simp only [Act.put, List.getElem_toArray, List.getElem_cons_zero, List.getElem_cons_succ, List.setIfInBounds_toArray, List.set_cons_zero, List.set_cons_succ])
    refine wpAnyH_ready (rs := [2,7]) (by kernel_rfl) (by simp) ?_
    refine AllReadyH.cons rfl (fun K hK => ?_) (AllReadyH.cons rfl (fun K hK => ?_) AllReadyH.nil)
    · go_simp
      refine (obj_c bE none 0 0 x1).mono ?_
      rintro e x2 ⟨rfl, kn⟩
      replace HTB := Lib.hid (tab_kept HTB.out kn)
      replace kq := kq.trans kn
      clear kn
      refine hK.out _ _ (hSK _ kq) (fun hHeld2 => ?_)
      clear hK K
      (try simp only [Act.put, List.getElem_toArray, List.getElem_cons_zero, List.getElem_cons_succ, List.setIfInBounds_toArray, List.set_cons_zero, List.set_cons_succ])
      refine wpAnyH_ready (rs := [3,7]) (by kernel_rfl) (by simp) ?_
      refine AllReadyH.cons rfl (fun K hK => ?_) (AllReadyH.cons rfl (fun K hK => ?_) AllReadyH.nil)
      · go_simp
        refine (ow_c ta tcp qc x2 HTB.out (HTb.out.kept (HKD.out.trans kq)) (lys_kept HCD.out kq)).mono ?_
        rintro e x3 ⟨ca, cc, rfl, hly, kn⟩
        have HAN := Lib.hid hly
        clear hly
        replace HTB := Lib.hid (tab_kept HTB.out kn)
        replace kq := kq.trans kn
        clear kn
        refine hK.out _ _ (hSK _ kq) (fun hHeld3 => ?_)
        clear hK K
        (try simp only [Act.put, List.getElem_toArray, List.getElem_cons_zero, List.getElem_cons_succ, List.setIfInBounds_toArray, List.set_cons_zero, List.set_cons_succ])
        refine wpAnyH_take (i := 4) (v := ?_) rfl (by kernel_rfl) (by kernel_rfl) (by kernel_rfl) (fun _ _ _ h => h) (Or.inl ⟨by kernel_rfl, ?_⟩) (by assumption) ?_
        rotate_left
        · intro w hSw; (try dsimp only at hSw); go_simp; (try with_reducible rfl)
        (try simp only [Act.put, List.getElem_toArray, List.getElem_cons_zero, List.getElem_cons_succ, List.setIfInBounds_toArray, List.set_cons_zero, List.set_cons_succ])
        refine wpAnyH_take (i := 5) (v := ?_) rfl (by kernel_rfl) (by kernel_rfl) (by kernel_rfl) (fun _ _ _ h => h) (Or.inl ⟨by kernel_rfl, ?_⟩) (by assumption) ?_
        rotate_left
        · intro w hSw; (try dsimp only at hSw); go_simp; (try with_reducible rfl)
        (try simp only [Act.put, List.getElem_toArray, List.getElem_cons_zero, List.getElem_cons_succ, List.setIfInBounds_toArray, List.set_cons_zero, List.set_cons_succ])
        refine wpAnyH_take (i := 6) (v := ?_) rfl (by kernel_rfl) (by kernel_rfl) (by kernel_rfl) (fun _ _ _ h => h) (Or.inl ⟨by kernel_rfl, ?_⟩) (by assumption) ?_
        rotate_left
        · intro w hSw; (try dsimp only at hSw); go_simp; (try with_reducible rfl)
        (try simp only [Act.put, List.getElem_toArray, List.getElem_cons_zero, List.getElem_cons_succ, List.setIfInBounds_toArray, List.set_cons_zero, List.set_cons_succ])
        refine wpAnyH_ready (rs := [7]) (by kernel_rfl) (by simp) ?_
        refine AllReadyH.cons rfl (fun K hK => ?_) AllReadyH.nil
        go_simp
        obtain ⟨x4, hn⟩ : ∃ W, x3.alloc (.cells uZ uT) = W := ⟨_, rfl⟩
        have kn : Kept x3 x4 := by rw [← hn]; exact (Kept.refl _).alloc _
        obtain ⟨qb, hqb⟩ : ∃ q, x3.heap.size = q := ⟨_, rfl⟩
        have HQ := Lib.hid (show Blk x4 qb uT uZ by rw [← hn, ← hqb]; exact Blk.new _ _ _)
        have HQB := Lib.hid (show D.heap.size ≤ qb by rw [← hqb]; exact kq.size)
        rw [hn, hqb]
        clear hn hqb
        replace HTB := Lib.hid (tab_kept HTB.out kn)
        replace HAN := Lib.hid (lys_kept HAN.out kn)
        replace kq := kq.trans kn
        clear kn
        refine hK.out _ _ (hSK _ kq) (fun hHeld4 => ?_)
        clear hK K
        (try simp only [Act.put, List.getElem_toArray, List.getElem_cons_zero, List.getElem_cons_succ, List.setIfInBounds_toArray, List.set_cons_zero, List.set_cons_succ])
        obtain ⟨⟨g0, g1, g2, g3, g4⟩, f0, f1, f2, f3, f4⟩ := blk5u HQ.out
        obtain ⟨Y, hY⟩ : ∃ Y, put5u x4 qb (.int .i64 (objW bE).tag) (.int .i64 (objW bE).n) (.int .u64 (objW bE).bits) (.string (objW bE).s) (.slice ca xL.length cc) = Y := ⟨_, rfl⟩
        have oY : Only (· = qb) x4 Y := by rw [← hY]; exact put5u_only _ _ _ _ _ _ _
        have bY : Blk Y qb uT #[.int .i64 (objW bE).tag, .int .i64 (objW bE).n, .int .u64 (objW bE).bits, .string (objW bE).s, .slice ca xL.length cc] := by rw [← hY]; exact put5u_blk HQ.out _ _ _ _ _
        have hkY : Kept D Y := kq.only oY rfl (fun k e => by have := HQB.out; omega)
        have hlY : LysAt Y (.slice ca xL.length cc) xL := lys_put HAN.out HQ.out oY
        have HWY := Lib.hid (show ((((x4.setCell ⟨qb, 0, none⟩ (.int .i64 7)).setCell ⟨qb, 1, none⟩ (.int .i64 1)).setCell ⟨qb, 2, none⟩ (.int .u64 0)).setCell ⟨qb, 3, none⟩ (.string bE)).setCell ⟨qb, 4, none⟩ (.slice ca 2 cc) = Y from hY)
        have HF := Lib.hid (And.intro bY (And.intro hlY hkY))
        refine wpAnyH_ready (rs := [8]) (by kernel_rfl) (by simp) ?_
        refine AllReadyH.cons rfl (fun K hK => ?_) AllReadyH.nil
        go_simp
        clear bY hlY oY
        rw [HWY.out]
        refine hK.out _ _ (hSK _ hkY) (fun hHeldZ => ?_)
        clear hK K
        (try simp only [Act.put, List.getElem_toArray, List.getElem_cons_zero, List.getElem_cons_succ, List.setIfInBounds_toArray, List.set_cons_zero, List.set_cons_succ])
        refine wpAnyH_take (i := 9) (v := ?_) rfl (by kernel_rfl) (by kernel_rfl) (by kernel_rfl) (fun _ _ _ h => h) (Or.inl ⟨by kernel_rfl, ?_⟩) (by assumption) ?_
        rotate_left
        · intro w hSw; (try dsimp only at hSw); go_simp; (try with_reducible rfl)
        (try simp only [Act.put, List.getElem_toArray, List.getElem_cons_zero, List.getElem_cons_succ, List.setIfInBounds_toArray, List.set_cons_zero, List.set_cons_succ])
        refine wpAnyH_done (by kernel_rfl) ?_ _
        first | refine hK2 _ _ (Met.intro (hJ2 _ _ ?_)) | refine Met.intro (hJ2 _ _ ?_)
        repeat apply Exists.intro
        refine ⟨?rel, rfl⟩
        case rel => exact ⟨qb, ca, cc, rfl, rfl, Lib.hid HF.out.1, Lib.hid HF.out.2.1, Lib.hid HF.out.2.2⟩
      · go_simp
        obtain ⟨x5, hn⟩ : ∃ W, x2.alloc (.cells uZ uT) = W := ⟨_, rfl⟩
        have kn : Kept x2 x5 := by rw [← hn]; exact (Kept.refl _).alloc _
        obtain ⟨qb, hqb⟩ : ∃ q, x2.heap.size = q := ⟨_, rfl⟩
        have HQ := Lib.hid (show Blk x5 qb uT uZ by rw [← hn, ← hqb]; exact Blk.new _ _ _)
        have HQB := Lib.hid (show D.heap.size ≤ qb by rw [← hqb]; exact kq.size)
        rw [hn, hqb]
        clear hn hqb
        replace HTB := Lib.hid (tab_kept HTB.out kn)
        replace kq := kq.trans kn
        clear kn
        refine hK.out _ _ (hSK _ kq) (fun hHeld5 => ?_)
        clear hK K
        (try simp only [Act.put, List.getElem_toArray, List.getElem_cons_zero, List.getElem_cons_succ, List.setIfInBounds_toArray, List.set_cons_zero, List.set_cons_succ])
        refine wpAnyH_ready (rs := [3]) (by kernel_rfl) (by simp) ?_
        refine AllReadyH.cons rfl (fun K hK => ?_) AllReadyH.nil
        go_simp
        refine (ow_c ta tcp qc x5 HTB.out (HTb.out.kept (HKD.out.trans kq)) (lys_kept HCD.out kq)).mono ?_
        rintro e x6 ⟨ca, cc, rfl, hly, kn⟩
        have HAN := Lib.hid hly
        clear hly
        replace HQ := Lib.hid (HQ.out.kept kn)
        replace HTB := Lib.hid (tab_kept HTB.out kn)
        replace kq := kq.trans kn
        clear kn
        refine hK.out _ _ (hSK _ kq) (fun hHeld6 => ?_)
        clear hK K
        (try simp only [Act.put, List.getElem_toArray, List.getElem_cons_zero, List.getElem_cons_succ, List.setIfInBounds_toArray, List.set_cons_zero, List.set_cons_succ])
        refine wpAnyH_take (i := 4) (v := ?_) rfl (by kernel_rfl) (by kernel_rfl) (by kernel_rfl) (fun _ _ _ h => h) (Or.inl ⟨by kernel_rfl, ?_⟩) (by assumption) ?_
        rotate_left
        · intro w hSw; (try dsimp only at hSw); go_simp; (try with_reducible rfl)
        (try simp only [Act.put, List.getElem_toArray, List.getElem_cons_zero, List.getElem_cons_succ, List.setIfInBounds_toArray, List.set_cons_zero, List.set_cons_succ])
        refine wpAnyH_take (i := 5) (v := ?_) rfl (by kernel_rfl) (by kernel_rfl) (by kernel_rfl) (fun _ _ _ h => h) (Or.inl ⟨by kernel_rfl, ?_⟩) (by assumption) ?_
        rotate_left
        · intro w hSw; (try dsimp only at hSw); go_simp; (try with_reducible rfl)
        (try simp only [Act.put, List.getElem_toArray, List.getElem_cons_zero, List.getElem_cons_succ, List.setIfInBounds_toArray, List.set_cons_zero, List.set_cons_succ])
        refine wpAnyH_take (i := 6) (v := ?_) rfl (by kernel_rfl) (by kernel_rfl) (by kernel_rfl) (fun _ _ _ h => h) (Or.inl ⟨by kernel_rfl, ?_⟩) (by assumption) ?_
        rotate_left
        · intro w hSw; (try dsimp only at hSw); go_simp; (try with_reducible rfl)
        (try simp only [Act.put, List.getElem_toArray, List.getElem_cons_zero, List.getElem_cons_succ, List.setIfInBounds_toArray, List.set_cons_zero, List.set_cons_succ])
        obtain ⟨⟨g0, g1, g2, g3, g4⟩, f0, f1, f2, f3, f4⟩ := blk5u HQ.out
        obtain ⟨Y, hY⟩ : ∃ Y, put5u x6 qb (.int .i64 (objW bE).tag) (.int .i64 (objW bE).n) (.int .u64 (objW bE).bits) (.string (objW bE).s) (.slice ca xL.length cc) = Y := ⟨_, rfl⟩
        have oY : Only (· = qb) x6 Y := by rw [← hY]; exact put5u_only _ _ _ _ _ _ _
        have bY : Blk Y qb uT #[.int .i64 (objW bE).tag, .int .i64 (objW bE).n, .int .u64 (objW bE).bits, .string (objW bE).s, .slice ca xL.length cc] := by rw [← hY]; exact put5u_blk HQ.out _ _ _ _ _
        have hkY : Kept D Y := kq.only oY rfl (fun k e => by have := HQB.out; omega)
        have hlY : LysAt Y (.slice ca xL.length cc) xL := lys_put HAN.out HQ.out oY
        have HWY := Lib.hid (show ((((x6.setCell ⟨qb, 0, none⟩ (.int .i64 7)).setCell ⟨qb, 1, none⟩ (.int .i64 1)).setCell ⟨qb, 2, none⟩ (.int .u64 0)).setCell ⟨qb, 3, none⟩ (.string bE)).setCell ⟨qb, 4, none⟩ (.slice ca 2 cc) = Y from hY)
        have HF := Lib.hid (And.intro bY (And.intro hlY hkY))
        refine wpAnyH_ready (rs := [8]) (by kernel_rfl) (by simp) ?_
        refine AllReadyH.cons rfl (fun K hK => ?_) AllReadyH.nil
        go_simp
        clear bY hlY oY
        rw [HWY.out]
        refine hK.out _ _ (hSK _ hkY) (fun hHeldZ => ?_)
        clear hK K
        (try simp only [Act.put, List.getElem_toArray, List.getElem_cons_zero, List.getElem_cons_succ, List.setIfInBounds_toArray, List.set_cons_zero, List.set_cons_succ])
        refine wpAnyH_take (i := 9) (v := ?_) rfl (by kernel_rfl) (by kernel_rfl) (by kernel_rfl) (fun _ _ _ h => h) (Or.inl ⟨by kernel_rfl, ?_⟩) (by assumption) ?_
        rotate_left
        · intro w hSw; (try dsimp only at hSw); go_simp; (try with_reducible rfl)
        (try simp only [Act.put, List.getElem_toArray, List.getElem_cons_zero, List.getElem_cons_succ, List.setIfInBounds_toArray, List.set_cons_zero, List.set_cons_succ])
        refine wpAnyH_done (by kernel_rfl) ?_ _
        first | refine hK2 _ _ (Met.intro (hJ2 _ _ ?_)) | refine Met.intro (hJ2 _ _ ?_)
        repeat apply Exists.intro
        refine ⟨?rel, rfl⟩
        case rel => exact ⟨qb, ca, cc, rfl, rfl, Lib.hid HF.out.1, Lib.hid HF.out.2.1, Lib.hid HF.out.2.2⟩
    · go_simp
      obtain ⟨x7, hn⟩ : ∃ W, x1.alloc (.cells uZ uT) = W := ⟨_, rfl⟩
      have kn : Kept x1 x7 := by rw [← hn]; exact (Kept.refl _).alloc _
      obtain ⟨qb, hqb⟩ : ∃ q, x1.heap.size = q := ⟨_, rfl⟩
      have HQ := Lib.hid (show Blk x7 qb uT uZ by rw [← hn, ← hqb]; exact Blk.new _ _ _)
      have HQB := Lib.hid (show D.heap.size ≤ qb by rw [← hqb]; exact kq.size)
      rw [hn, hqb]
      clear hn hqb
      replace HTB := Lib.hid (tab_kept HTB.out kn)
      replace kq := kq.trans kn
      clear kn
      refine hK.out _ _ (hSK _ kq) (fun hHeld7 => ?_)
      clear hK K
      (try simp only [Act.put, List.getElem_toArray, List.getElem_cons_zero, List.getElem_cons_succ, List.setIfInBounds_toArray, List.set_cons_zero, List.set_cons_succ])
      refine wpAnyH_ready (rs := [2]) (by kernel_rfl) (by simp) ?_
      refine AllReadyH.cons rfl (fun K hK => ?_) AllReadyH.nil
      go_simp
      refine (obj_c bE none 0 0 x7).mono ?_
      rintro e x8 ⟨rfl, kn⟩
      replace HQ := Lib.hid (HQ.out.kept kn)
      replace HTB := Lib.hid (tab_kept HTB.out kn)
      replace kq := kq.trans kn
      clear kn
      refine hK.out _ _ (hSK _ kq) (fun hHeld8 => ?_)
      clear hK K
      (try simp only [Act.put, List.getElem_toArray, List.getElem_cons_zero, List.getElem_cons_succ, List.setIfInBounds_toArray, List.set_cons_zero, List.set_cons_succ])
      refine wpAnyH_ready (rs := [3]) (by kernel_rfl) (by simp) ?_
      refine AllReadyH.cons rfl (fun K hK => ?_) AllReadyH.nil
      go_simp
      refine (ow_c ta tcp qc x8 HTB.out (HTb.out.kept (HKD.out.trans kq)) (lys_kept HCD.out kq)).mono ?_
      rintro e x9 ⟨ca, cc, rfl, hly, kn⟩
      have HAN := Lib.hid hly
      clear hly
      replace HQ := Lib.hid (HQ.out.kept kn)
      replace HTB := Lib.hid (tab_kept HTB.out kn)
      replace kq := kq.trans kn
      clear kn
      refine hK.out _ _ (hSK _ kq) (fun hHeld9 => ?_)
      clear hK K
      (try simp only [Act.put, List.getElem_toArray, List.getElem_cons_zero, List.getElem_cons_succ, List.setIfInBounds_toArray, List.set_cons_zero, List.set_cons_succ])
      refine wpAnyH_take (i := 4) (v := ?_) rfl (by kernel_rfl) (by kernel_rfl) (by kernel_rfl) (fun _ _ _ h => h) (Or.inl ⟨by kernel_rfl, ?_⟩) (by assumption) ?_
      rotate_left
      · intro w hSw; (try dsimp only at hSw); go_simp; (try with_reducible rfl)
      (try simp only [Act.put, List.getElem_toArray, List.getElem_cons_zero, List.getElem_cons_succ, List.setIfInBounds_toArray, List.set_cons_zero, List.set_cons_succ])
      refine wpAnyH_take (i := 5) (v := ?_) rfl (by kernel_rfl) (by kernel_rfl) (by kernel_rfl) (fun _ _ _ h => h) (Or.inl ⟨by kernel_rfl, ?_⟩) (by assumption) ?_
      rotate_left
      · intro w hSw; (try dsimp only at hSw); go_simp; (try with_reducible rfl)
      (try simp only [Act.put, List.getElem_toArray, List.getElem_cons_zero, List.getElem_cons_succ, List.setIfInBounds_toArray, List.set_cons_zero, List.set_cons_succ])
      refine wpAnyH_take (i := 6) (v := ?_) rfl (by kernel_rfl) (by kernel_rfl) (by kernel_rfl) (fun _ _ _ h => h) (Or.inl ⟨by kernel_rfl, ?_⟩) (by assumption) ?_
      rotate_left
      · intro w hSw; (try dsimp only at hSw); go_simp; (try with_reducible rfl)
      (try simp only [Act.put, List.getElem_toArray, List.getElem_cons_zero, List.getElem_cons_succ, List.setIfInBounds_toArray, List.set_cons_zero, List.set_cons_succ])
      obtain ⟨⟨g0, g1, g2, g3, g4⟩, f0, f1, f2, f3, f4⟩ := blk5u HQ.out
      obtain ⟨Y, hY⟩ : ∃ Y, put5u x9 qb (.int .i64 (objW bE).tag) (.int .i64 (objW bE).n) (.int .u64 (objW bE).bits) (.string (objW bE).s) (.slice ca xL.length cc) = Y := ⟨_, rfl⟩
      have oY : Only (· = qb) x9 Y := by rw [← hY]; exact put5u_only _ _ _ _ _ _ _
      have bY : Blk Y qb uT #[.int .i64 (objW bE).tag, .int .i64 (objW bE).n, .int .u64 (objW bE).bits, .string (objW bE).s, .slice ca xL.length cc] := by rw [← hY]; exact put5u_blk HQ.out _ _ _ _ _
      have hkY : Kept D Y := kq.only oY rfl (fun k e => by have := HQB.out; omega)
      have hlY : LysAt Y (.slice ca xL.length cc) xL := lys_put HAN.out HQ.out oY
      have HWY := Lib.hid (show ((((x9.setCell ⟨qb, 0, none⟩ (.int .i64 7)).setCell ⟨qb, 1, none⟩ (.int .i64 1)).setCell ⟨qb, 2, none⟩ (.int .u64 0)).setCell ⟨qb, 3, none⟩ (.string bE)).setCell ⟨qb, 4, none⟩ (.slice ca 2 cc) = Y from hY)
      have HF := Lib.hid (And.intro bY (And.intro hlY hkY))
      refine wpAnyH_ready (rs := [8]) (by kernel_rfl) (by simp) ?_
      refine AllReadyH.cons rfl (fun K hK => ?_) AllReadyH.nil
      go_simp
      clear bY hlY oY
      rw [HWY.out]
      refine hK.out _ _ (hSK _ hkY) (fun hHeldZ => ?_)
      clear hK K
      (try simp only [Act.put, List.getElem_toArray, List.getElem_cons_zero, List.getElem_cons_succ, List.setIfInBounds_toArray, List.set_cons_zero, List.set_cons_succ])
      refine wpAnyH_take (i := 9) (v := ?_) rfl (by kernel_rfl) (by kernel_rfl) (by kernel_rfl) (fun _ _ _ h => h) (Or.inl ⟨by kernel_rfl, ?_⟩) (by assumption) ?_
      rotate_left
      · intro w hSw; (try dsimp only at hSw); go_simp; (try with_reducible rfl)
      (try simp only [Act.put, List.getElem_toArray, List.getElem_cons_zero, List.getElem_cons_succ, List.setIfInBounds_toArray, List.set_cons_zero, List.set_cons_succ])
      refine wpAnyH_done (by kernel_rfl) ?_ _
      first | refine hK2 _ _ (Met.intro (hJ2 _ _ ?_)) | refine Met.intro (hJ2 _ _ ?_)
      repeat apply Exists.intro
      refine ⟨?rel, rfl⟩
      case rel => exact ⟨qb, ca, cc, rfl, rfl, Lib.hid HF.out.1, Lib.hid HF.out.2.1, Lib.hid HF.out.2.2⟩
  · go_simp
    obtain ⟨x10, hn⟩ : ∃ W, D.alloc (.cells uZ uT) = W := ⟨_, rfl⟩
    have kn : Kept D x10 := by rw [← hn]; exact (Kept.refl _).alloc _
    obtain ⟨qb, hqb⟩ : ∃ q, D.heap.size = q := ⟨_, rfl⟩
    have HQ := Lib.hid (show Blk x10 qb uT uZ by rw [← hn, ← hqb]; exact Blk.new _ _ _)
    have HQB := Lib.hid (show D.heap.size ≤ qb by rw [← hqb]; exact kq.size)
    rw [hn, hqb]
    clear hn hqb
    replace kq := kq.trans kn
    clear kn
    refine hK.out _ _ (hSK _ kq) (fun hHeld10 => ?_)
    clear hK K
    (try simp only [Act.put, List.getElem_toArray, List.getElem_cons_zero, List.getElem_cons_succ, List.setIfInBounds_toArray, List.set_cons_zero, List.set_cons_succ])
    refine wpAnyH_ready (rs := [0]) (by kernel_rfl) (by simp) ?_
    refine AllReadyH.cons rfl (fun K hK => ?_) AllReadyH.nil
    go_simp
    refine (some_c x10).mono ?_
    rintro e x11 ⟨ta, tcp, rfl, hT, kn⟩
    have HTB := Lib.hid hT
    clear hT
    replace HQ := Lib.hid (HQ.out.kept kn)
    replace kq := kq.trans kn
    clear kn
    refine hK.out _ _ (hSK _ kq) (fun hHeld11 => ?_)
    clear hK K
    (try simp only [Act.put, List.getElem_toArray, List.getElem_cons_zero, List.getElem_cons_succ, List.setIfInBounds_toArray, List.set_cons_zero, List.set_cons_succ])
    refine wpAnyH_ready (rs := [2]) (by kernel_rfl) (by simp) ?_
    refine AllReadyH.cons rfl (fun K hK => ?_) AllReadyH.nil
    go_simp
    refine (obj_c bE none 0 0 x11).mono ?_
    rintro e x12 ⟨rfl, kn⟩
    replace HQ := Lib.hid (HQ.out.kept kn)
    replace HTB := Lib.hid (tab_kept HTB.out kn)
    replace kq := kq.trans kn
    clear kn
    refine hK.out _ _ (hSK _ kq) (fun hHeld12 => ?_)
    clear hK K
    (try simp only [Act.put, List.getElem_toArray, List.getElem_cons_zero, List.getElem_cons_succ, List.setIfInBounds_toArray, List.set_cons_zero, List.set_cons_succ])
    refine wpAnyH_ready (rs := [3]) (by kernel_rfl) (by simp) ?_
    refine AllReadyH.cons rfl (fun K hK => ?_) AllReadyH.nil
    go_simp
    refine (ow_c ta tcp qc x12 HTB.out (HTb.out.kept (HKD.out.trans kq)) (lys_kept HCD.out kq)).mono ?_
    rintro e x13 ⟨ca, cc, rfl, hly, kn⟩
    have HAN := Lib.hid hly
    clear hly
    replace HQ := Lib.hid (HQ.out.kept kn)
    replace HTB := Lib.hid (tab_kept HTB.out kn)
    replace kq := kq.trans kn
    clear kn
    refine hK.out _ _ (hSK _ kq) (fun hHeld13 => ?_)
    clear hK K
    (try simp only [Act.put, List.getElem_toArray, List.getElem_cons_zero, List.getElem_cons_succ, List.setIfInBounds_toArray, List.set_cons_zero, List.set_cons_succ])
    refine wpAnyH_take (i := 4) (v := ?_) rfl (by kernel_rfl) (by kernel_rfl) (by kernel_rfl) (fun _ _ _ h => h) (Or.inl ⟨by kernel_rfl, ?_⟩) (by assumption) ?_
    rotate_left
    · intro w hSw; (try dsimp only at hSw); go_simp; (try with_reducible rfl)
    (try simp only [Act.put, List.getElem_toArray, List.getElem_cons_zero, List.getElem_cons_succ, List.setIfInBounds_toArray, List.set_cons_zero, List.set_cons_succ])
    refine wpAnyH_take (i := 5) (v := ?_) rfl (by kernel_rfl) (by kernel_rfl) (by kernel_rfl) (fun _ _ _ h => h) (Or.inl ⟨by kernel_rfl, ?_⟩) (by assumption) ?_
    rotate_left
    · intro w hSw; (try dsimp only at hSw); go_simp; (try with_reducible rfl)
    (try simp only [Act.put, List.getElem_toArray, List.getElem_cons_zero, List.getElem_cons_succ, List.setIfInBounds_toArray, List.set_cons_zero, List.set_cons_succ])
    refine wpAnyH_take (i := 6) (v := ?_) rfl (by kernel_rfl) (by kernel_rfl) (by kernel_rfl) (fun _ _ _ h => h) (Or.inl ⟨by kernel_rfl, ?_⟩) (by assumption) ?_
    rotate_left
    · intro w hSw; (try dsimp only at hSw); go_simp; (try with_reducible rfl)
    (try simp only [Act.put, List.getElem_toArray, List.getElem_cons_zero, List.getElem_cons_succ, List.setIfInBounds_toArray, List.set_cons_zero, List.set_cons_succ])
    obtain ⟨⟨g0, g1, g2, g3, g4⟩, f0, f1, f2, f3, f4⟩ := blk5u HQ.out
    obtain ⟨Y, hY⟩ : ∃ Y, put5u x13 qb (.int .i64 (objW bE).tag) (.int .i64 (objW bE).n) (.int .u64 (objW bE).bits) (.string (objW bE).s) (.slice ca xL.length cc) = Y := ⟨_, rfl⟩
    have oY : Only (· = qb) x13 Y := by rw [← hY]; exact put5u_only _ _ _ _ _ _ _
    have bY : Blk Y qb uT #[.int .i64 (objW bE).tag, .int .i64 (objW bE).n, .int .u64 (objW bE).bits, .string (objW bE).s, .slice ca xL.length cc] := by rw [← hY]; exact put5u_blk HQ.out _ _ _ _ _
    have hkY : Kept D Y := kq.only oY rfl (fun k e => by have := HQB.out; omega)
    have hlY : LysAt Y (.slice ca xL.length cc) xL := lys_put HAN.out HQ.out oY
    have HWY := Lib.hid (show ((((x13.setCell ⟨qb, 0, none⟩ (.int .i64 7)).setCell ⟨qb, 1, none⟩ (.int .i64 1)).setCell ⟨qb, 2, none⟩ (.int .u64 0)).setCell ⟨qb, 3, none⟩ (.string bE)).setCell ⟨qb, 4, none⟩ (.slice ca 2 cc) = Y from hY)
    have HF := Lib.hid (And.intro bY (And.intro hlY hkY))
    refine wpAnyH_ready (rs := [8]) (by kernel_rfl) (by simp) ?_
    refine AllReadyH.cons rfl (fun K hK => ?_) AllReadyH.nil
    go_simp
    clear bY hlY oY
    rw [HWY.out]
    refine hK.out _ _ (hSK _ hkY) (fun hHeldZ => ?_)
    clear hK K
    (try simp only [Act.put, List.getElem_toArray, List.getElem_cons_zero, List.getElem_cons_succ, List.setIfInBounds_toArray, List.set_cons_zero, List.set_cons_succ])
    refine wpAnyH_take (i := 9) (v := ?_) rfl (by kernel_rfl) (by kernel_rfl) (by kernel_rfl) (fun _ _ _ h => h) (Or.inl ⟨by kernel_rfl, ?_⟩) (by assumption) ?_
    rotate_left
    · intro w hSw; (try dsimp only at hSw); go_simp; (try with_reducible rfl)
    (try simp only [Act.put, List.getElem_toArray, List.getElem_cons_zero, List.getElem_cons_succ, List.setIfInBounds_toArray, List.set_cons_zero, List.set_cons_succ])
    refine wpAnyH_done (by kernel_rfl) ?_ _
    first | refine hK2 _ _ (Met.intro (hJ2 _ _ ?_)) | refine Met.intro (hJ2 _ _ ?_)
    repeat apply Exists.intro
    refine ⟨?rel, rfl⟩
    case rel => exact ⟨qb, ca, cc, rfl, rfl, Lib.hid HF.out.1, Lib.hid HF.out.2.1, Lib.hid HF.out.2.2⟩
end Go.Proofs.YtdceafncncgfbaaDoor
