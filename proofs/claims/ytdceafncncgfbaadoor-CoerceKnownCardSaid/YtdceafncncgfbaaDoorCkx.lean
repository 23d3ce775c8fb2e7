/- CoerceKnown. (genckx.py) -/
import Derived.Test.YtdceafncncgfbaaDoorCka
import Derived.Test.YtdceafncncgfbaaDoorCkm
set_option linter.unusedSimpArgs false
set_option linter.unusedVariables false
set_option maxRecDepth 100000
namespace Go.Proofs.YtdceafncncgfbaaDoor
open Go.ChangeShapes Go.WideShapes Go.ChangeAt Go.RowKit Go.Shelf

abbrev nullW : Vw := ⟨6, 0, 0, e0w⟩
theorem sh1 : Co.showsP someT (objW bE) [] = [(bx, -1), (by_, -1)] := by kernel_rfl
theorem sh2 : Co.showsP someT (objW bE) [⟨false, bD, 1⟩] = [(bx, -1)] := by kernel_rfl
theorem sh3 : Co.showsP someT threeW [] = [] := by kernel_rfl
theorem shows_k (x : Vw) (R : List Mbr) (va : Option Addr) (vc : Nat) (l : List Ly) (a : Option Addr) (cp : Nat) (w : World) (hT : TabAt w (.slice a someT.length cp) someT) (hv : LysAt w (.slice va l.length vc) l) (hs : x.s.size ≤ maxLen) (hl : l.length ≤ 100000) (hr : Co.showsP someT x l = R) :
    Calls Tryd.prog 8 #[.slice a someT.length cp, vV x (.slice va l.length vc)] w (ShowsPost R w) := hr ▸ shows_c x va vc l a cp someT w hT some_small hv hs hl
theorem kc1 : (decide ((Co.valR threeW (Co.castR someT threeW [] bint bq 1)).1 = threeW ∧ (Co.valR threeW (Co.castR someT threeW [] bint bq 1)).2 = []) && decide (Co.labR (Co.castR someT threeW [] bint bq 1) = 0)) = true := by kernel_rfl
theorem kc2 : (decide ((Co.valR nullW (Co.castR someT nullW [] bq bD 3)).1 = nullW ∧ (Co.valR nullW (Co.castR someT nullW [] bq bD 3)).2 = []) && decide (Co.labR (Co.castR someT nullW [] bq bD 3) = 0)) = true := by kernel_rfl
theorem ke1 : (decide ((Co.valR (objW bD) (Co.enterR someT (objW bD) [] bE 5)).1 = zW ∧ (Co.valR (objW bD) (Co.enterR someT (objW bD) [] bE 5)).2 = []) && decide (Co.labR (Co.enterR someT (objW bD) [] bE 5) = 5)) = true := by kernel_rfl
theorem ke2 : (decide ((Co.valR threeW (Co.enterR someT threeW [] bD (-4))).1 = zW ∧ (Co.valR threeW (Co.enterR someT threeW [] bD (-4))).2 = []) && decide (Co.labR (Co.enterR someT threeW [] bD (-4)) = -4)) = true := by kernel_rfl
theorem kl1 : Co.sentP false [] (Co.wrapL threeW [] ⟨false, bD, 1⟩) = [] := by kernel_rfl
theorem ki_val : Co.valR threeW (Co.goR someT threeW (fun c => Co.takenP someT c bm 1) true (objW bC) cL []) = (threeW, []) := by kernel_rfl
theorem ki_lab : Co.labR (Co.goR someT threeW (fun c => Co.takenP someT c bm 1) true (objW bC) cL []) = 0 := by kernel_rfl
theorem ki_c (ta : Option Addr) (tcp : Nat) (qc : Nat) (W : World) (hT : TabAt W (.slice ta someT.length tcp) someT) (hTb : Tb W) (hL : LysAt W (.slice (some ⟨qc, 0, none⟩) cL.length 2) cL) :
    Calls Tryd.prog 16 #[.slice ta someT.length tcp, vV (objW bC) (.slice (some ⟨qc, 0, none⟩) cL.length 2), .string bm, .int .i64 1, vV threeW (.slice none ([] : List Ly).length 0), .bool false] W (AnsPost (threeW, []) 0 W) :=
  (oinward_c false threeW none 0 [] ta tcp someT (objW bC) (some ⟨qc, 0, none⟩) 2 cL bm 1 W hT some_small hTb Row.nil hL (by decide) (small1 (by decide)) (by decide)).mono (fun e w' h => by have := ans_of h; rwa [sent_false, ki_val, ki_lab] at this)
theorem mbs_lit1 {W : World} {q : Nat} {x : Mbr} (h : Blk W q tM #[.string x.1, .int .i64 x.2]) : MbsAt W (some ⟨q, 0, none⟩) [x] := fun k p hp => by
  cases k with
  | zero => simp at hp; subst hp; exact ⟨q, rfl, h.cell _, h.cell _⟩
  | succ k => simp at hp
theorem mbs_lit2 {W : World} {q : Nat} {x y : Mbr} (h : Blk W q tM #[.string x.1, .int .i64 x.2, .string y.1, .int .i64 y.2]) : MbsAt W (some ⟨q, 0, none⟩) [x, y] := fun k p hp => by
  cases k with
  | zero => simp at hp; subst hp; exact ⟨q, rfl, h.cell _, h.cell _⟩
  | succ k => cases k with
    | zero => simp at hp; subst hp; exact ⟨q, rfl, h.cell _, h.cell _⟩
    | succ k => simp at hp

set_option maxHeartbeats 32000000 in
theorem known_c (w : World) (hTb : Tb w) : Calls Tryd.prog 3 #[] w fun e w' => e = .returned (.bool true) ∧ Kept w w' := by
  have HTb := Lib.hid hTb
  clear hTb
  have kq := Lib.hid (Kept.refl w)
  go_enter Tryd.func3, Tryd.ntmps3
  go_wp2_with (fail)
  refine (some_c w).mono ?_
  rintro e y1 ⟨ta, tcp, rfl, hT, kn⟩
  have HT := Lib.hid hT
  clear hT
  replace kq := Lib.hid (kq.out.trans kn)
  clear kn
  obtain ⟨y2, hn⟩ : ∃ W, y1.alloc (.cells #[.int .i64 6, .int .i64 0, .int .u64 0, .string e0w, .slice none 0 0] uT) = W := ⟨_, rfl⟩
  have kn : Kept y1 y2 := by rw [← hn]; exact (Kept.refl _).alloc _
  obtain ⟨bnu, hqbnu⟩ : ∃ q, y1.heap.size = q := ⟨_, rfl⟩
  have BNU := Lib.hid (show Blk y2 bnu uT #[.int .i64 6, .int .i64 0, .int .u64 0, .string e0w, .slice none 0 0] from (by rw [← hn, ← hqbnu]; exact Blk.new _ _ _))
  have HNy2 := Lib.hid hn
  clear hn
  replace HT := Lib.hid (tab_kept HT.out kn)
  replace kq := Lib.hid (kq.out.trans kn)
  clear kn
  go_wp2_with (first | rw [HNy2.out] | rw [hqbnu])
  refine (obj_c bE none 0 0 y2).mono ?_
  rintro e y3 ⟨rfl, kn⟩
  replace HT := Lib.hid (tab_kept HT.out kn)
  replace BNU := Lib.hid (BNU.out.kept kn)
  replace kq := Lib.hid (kq.out.trans kn)
  clear kn
  go_wp2_with (fail)
  refine (shows_k (objW bE) [(bx, -1), (by_, -1)] none 0 [] ta tcp y3 HT.out Row.nil (small1 (by decide)) (by decide) sh1).mono ?_
  rintro e y4 ⟨s1, s1c, rfl, hm, kn⟩
  have MS1 := Lib.hid hm
  clear hm
  replace HT := Lib.hid (tab_kept HT.out kn)
  replace BNU := Lib.hid (BNU.out.kept kn)
  replace kq := Lib.hid (kq.out.trans kn)
  clear kn
  obtain ⟨y5, hn⟩ : ∃ W, y4.alloc (.cells #[.string bx, .int .i64 (-1), .string by_, .int .i64 (-1)] tM) = W := ⟨_, rfl⟩
  have kn : Kept y4 y5 := by rw [← hn]; exact (Kept.refl _).alloc _
  obtain ⟨ma, hqma⟩ : ∃ q, y4.heap.size = q := ⟨_, rfl⟩
  have MA := Lib.hid (show MbsAt y5 (some ⟨ma, 0, none⟩) [(bx, -1), (by_, -1)] from mbs_lit2 (by rw [← hn, ← hqma]; exact Blk.new _ _ _))
  have HNy5 := Lib.hid hn
  clear hn
  replace HT := Lib.hid (tab_kept HT.out kn)
  replace BNU := Lib.hid (BNU.out.kept kn)
  replace MS1 := Lib.hid (MS1.out.kept kn)
  replace kq := Lib.hid (kq.out.trans kn)
  clear kn
  go_wp2_with (first | rw [HNy5.out] | rw [hqma])
  refine (sameM_y [(bx, -1), (by_, -1)] s1 (some ⟨ma, 0, none⟩) s1c 2 y5 MS1.out MA.out (by decide)).mono ?_
  rintro e y6 ⟨rfl, kn⟩
  replace HT := Lib.hid (tab_kept HT.out kn)
  replace BNU := Lib.hid (BNU.out.kept kn)
  replace MS1 := Lib.hid (MS1.out.kept kn)
  replace MA := Lib.hid (MA.out.kept kn)
  replace kq := Lib.hid (kq.out.trans kn)
  clear kn
  go_wp2_with (fail)
  refine (in_c bD 1 y6).mono ?_
  rintro e y7 ⟨rfl, kn⟩
  replace HT := Lib.hid (tab_kept HT.out kn)
  replace BNU := Lib.hid (BNU.out.kept kn)
  replace MS1 := Lib.hid (MS1.out.kept kn)
  replace MA := Lib.hid (MA.out.kept kn)
  replace kq := Lib.hid (kq.out.trans kn)
  clear kn
  obtain ⟨y8, hn⟩ : ∃ W, y7.alloc (.cells #[.bool false, .string bD, .int .i64 1] lT) = W := ⟨_, rfl⟩
  have kn : Kept y7 y8 := by rw [← hn]; exact (Kept.refl _).alloc _
  obtain ⟨la, hqla⟩ : ∃ q, y7.heap.size = q := ⟨_, rfl⟩
  have LA := Lib.hid (show LysAt y8 (.slice (some ⟨la, 0, none⟩) 1 1) [⟨false, bD, 1⟩] from lys_lit1 (by rw [← hn, ← hqla]; exact Blk.new _ _ _) (small1 (by decide)))
  have HNy8 := Lib.hid hn
  clear hn
  replace HT := Lib.hid (tab_kept HT.out kn)
  replace BNU := Lib.hid (BNU.out.kept kn)
  replace MS1 := Lib.hid (MS1.out.kept kn)
  replace MA := Lib.hid (MA.out.kept kn)
  replace kq := Lib.hid (kq.out.trans kn)
  clear kn
  go_wp2_with (first | rw [HNy8.out] | rw [hqla])
  refine (obj_c bE (some ⟨la, 0, none⟩) 1 1 y8).mono ?_
  rintro e y9 ⟨rfl, kn⟩
  replace HT := Lib.hid (tab_kept HT.out kn)
  replace BNU := Lib.hid (BNU.out.kept kn)
  replace MS1 := Lib.hid (MS1.out.kept kn)
  replace MA := Lib.hid (MA.out.kept kn)
  replace LA := Lib.hid (lys_kept LA.out kn)
  replace kq := Lib.hid (kq.out.trans kn)
  clear kn
  go_wp2_with (fail)
  refine (shows_k (objW bE) [(bx, -1)] (some ⟨la, 0, none⟩) 1 [⟨false, bD, 1⟩] ta tcp y9 HT.out LA.out (small1 (by decide)) (by decide) sh2).mono ?_
  rintro e y10 ⟨s2, s2c, rfl, hm, kn⟩
  have MS2 := Lib.hid hm
  clear hm
  replace HT := Lib.hid (tab_kept HT.out kn)
  replace BNU := Lib.hid (BNU.out.kept kn)
  replace MS1 := Lib.hid (MS1.out.kept kn)
  replace MA := Lib.hid (MA.out.kept kn)
  replace LA := Lib.hid (lys_kept LA.out kn)
  replace kq := Lib.hid (kq.out.trans kn)
  clear kn
  obtain ⟨y11, hn⟩ : ∃ W, y10.alloc (.cells #[.string bx, .int .i64 (-1)] tM) = W := ⟨_, rfl⟩
  have kn : Kept y10 y11 := by rw [← hn]; exact (Kept.refl _).alloc _
  obtain ⟨mb, hqmb⟩ : ∃ q, y10.heap.size = q := ⟨_, rfl⟩
  have MB := Lib.hid (show MbsAt y11 (some ⟨mb, 0, none⟩) [(bx, -1)] from mbs_lit1 (by rw [← hn, ← hqmb]; exact Blk.new _ _ _))
  have HNy11 := Lib.hid hn
  clear hn
  replace HT := Lib.hid (tab_kept HT.out kn)
  replace BNU := Lib.hid (BNU.out.kept kn)
  replace MS1 := Lib.hid (MS1.out.kept kn)
  replace MA := Lib.hid (MA.out.kept kn)
  replace LA := Lib.hid (lys_kept LA.out kn)
  replace MS2 := Lib.hid (MS2.out.kept kn)
  replace kq := Lib.hid (kq.out.trans kn)
  clear kn
  go_wp2_with (first | rw [HNy11.out] | rw [hqmb])
  refine (sameM_y [(bx, -1)] s2 (some ⟨mb, 0, none⟩) s2c 1 y11 MS2.out MB.out (by decide)).mono ?_
  rintro e y12 ⟨rfl, kn⟩
  replace HT := Lib.hid (tab_kept HT.out kn)
  replace BNU := Lib.hid (BNU.out.kept kn)
  replace MS1 := Lib.hid (MS1.out.kept kn)
  replace MA := Lib.hid (MA.out.kept kn)
  replace LA := Lib.hid (lys_kept LA.out kn)
  replace MS2 := Lib.hid (MS2.out.kept kn)
  replace MB := Lib.hid (MB.out.kept kn)
  replace kq := Lib.hid (kq.out.trans kn)
  clear kn
  go_wp2_with (fail)
  refine (three_c y12).mono ?_
  rintro e y13 ⟨rfl, kn⟩
  replace HT := Lib.hid (tab_kept HT.out kn)
  replace BNU := Lib.hid (BNU.out.kept kn)
  replace MS1 := Lib.hid (MS1.out.kept kn)
  replace MA := Lib.hid (MA.out.kept kn)
  replace LA := Lib.hid (lys_kept LA.out kn)
  replace MS2 := Lib.hid (MS2.out.kept kn)
  replace MB := Lib.hid (MB.out.kept kn)
  replace kq := Lib.hid (kq.out.trans kn)
  clear kn
  go_wp2_with (fail)
  refine (shows_k threeW [] none 0 [] ta tcp y13 HT.out Row.nil (small1 (by decide)) (by decide) sh3).mono ?_
  rintro e y14 ⟨s3, s3c, rfl, hm, kn⟩
  clear hm
  replace HT := Lib.hid (tab_kept HT.out kn)
  replace BNU := Lib.hid (BNU.out.kept kn)
  replace MS1 := Lib.hid (MS1.out.kept kn)
  replace MA := Lib.hid (MA.out.kept kn)
  replace LA := Lib.hid (lys_kept LA.out kn)
  replace MS2 := Lib.hid (MS2.out.kept kn)
  replace MB := Lib.hid (MB.out.kept kn)
  replace kq := Lib.hid (kq.out.trans kn)
  clear kn
  go_wp2_with (fail)
  refine (three_c y14).mono ?_
  rintro e y15 ⟨rfl, kn⟩
  replace HT := Lib.hid (tab_kept HT.out kn)
  replace BNU := Lib.hid (BNU.out.kept kn)
  replace MS1 := Lib.hid (MS1.out.kept kn)
  replace MA := Lib.hid (MA.out.kept kn)
  replace LA := Lib.hid (lys_kept LA.out kn)
  replace MS2 := Lib.hid (MS2.out.kept kn)
  replace MB := Lib.hid (MB.out.kept kn)
  replace kq := Lib.hid (kq.out.trans kn)
  clear kn
  go_wp2_with (fail)
  refine (three_c y15).mono ?_
  rintro e y16 ⟨rfl, kn⟩
  replace HT := Lib.hid (tab_kept HT.out kn)
  replace BNU := Lib.hid (BNU.out.kept kn)
  replace MS1 := Lib.hid (MS1.out.kept kn)
  replace MA := Lib.hid (MA.out.kept kn)
  replace LA := Lib.hid (lys_kept LA.out kn)
  replace MS2 := Lib.hid (MS2.out.kept kn)
  replace MB := Lib.hid (MB.out.kept kn)
  replace kq := Lib.hid (kq.out.trans kn)
  clear kn
  go_wp2_with (fail)
  refine (kc1 ▸ casts_c threeW none 0 [] bint bq 1 threeW none 0 [] 0 y16 (HTb.out.kept kq.out) Row.nil Row.nil (small1 (by decide)) (small1 (by decide)) (small1 (by decide)) (by decide)).mono ?_
  rintro e y17 ⟨rfl, kn⟩
  replace HT := Lib.hid (tab_kept HT.out kn)
  replace BNU := Lib.hid (BNU.out.kept kn)
  replace MS1 := Lib.hid (MS1.out.kept kn)
  replace MA := Lib.hid (MA.out.kept kn)
  replace LA := Lib.hid (lys_kept LA.out kn)
  replace MS2 := Lib.hid (MS2.out.kept kn)
  replace MB := Lib.hid (MB.out.kept kn)
  replace kq := Lib.hid (kq.out.trans kn)
  clear kn
  obtain ⟨⟨n0, n1, n2, n3, n4⟩, _⟩ := blk5u BNU.out
  go_wp2_with (fail)
  refine (kc2 ▸ casts_c nullW none 0 [] bq bD 3 nullW none 0 [] 0 y17 (HTb.out.kept kq.out) Row.nil Row.nil (small1 (by decide)) (small1 (by decide)) (small1 (by decide)) (by decide)).mono ?_
  rintro e y18 ⟨rfl, kn⟩
  replace HT := Lib.hid (tab_kept HT.out kn)
  replace BNU := Lib.hid (BNU.out.kept kn)
  replace MS1 := Lib.hid (MS1.out.kept kn)
  replace MA := Lib.hid (MA.out.kept kn)
  replace LA := Lib.hid (lys_kept LA.out kn)
  replace MS2 := Lib.hid (MS2.out.kept kn)
  replace MB := Lib.hid (MB.out.kept kn)
  replace kq := Lib.hid (kq.out.trans kn)
  clear kn
  clear n0 n1 n2 n3 n4
  go_wp2_with (fail)
  refine (obj_c bD none 0 0 y18).mono ?_
  rintro e y19 ⟨rfl, kn⟩
  replace HT := Lib.hid (tab_kept HT.out kn)
  replace BNU := Lib.hid (BNU.out.kept kn)
  replace MS1 := Lib.hid (MS1.out.kept kn)
  replace MA := Lib.hid (MA.out.kept kn)
  replace LA := Lib.hid (lys_kept LA.out kn)
  replace MS2 := Lib.hid (MS2.out.kept kn)
  replace MB := Lib.hid (MB.out.kept kn)
  replace kq := Lib.hid (kq.out.trans kn)
  clear kn
  go_wp2_with (fail)
  refine (ke1 ▸ enters_c (objW bD) none 0 [] bE 5 zW none 0 [] 5 y19 (HTb.out.kept kq.out) Row.nil Row.nil (small1 (by decide)) (small1 (by decide)) (by decide)).mono ?_
  rintro e y20 ⟨rfl, kn⟩
  replace HT := Lib.hid (tab_kept HT.out kn)
  replace BNU := Lib.hid (BNU.out.kept kn)
  replace MS1 := Lib.hid (MS1.out.kept kn)
  replace MA := Lib.hid (MA.out.kept kn)
  replace LA := Lib.hid (lys_kept LA.out kn)
  replace MS2 := Lib.hid (MS2.out.kept kn)
  replace MB := Lib.hid (MB.out.kept kn)
  replace kq := Lib.hid (kq.out.trans kn)
  clear kn
  go_wp2_with (fail)
  refine (three_c y20).mono ?_
  rintro e y21 ⟨rfl, kn⟩
  replace HT := Lib.hid (tab_kept HT.out kn)
  replace BNU := Lib.hid (BNU.out.kept kn)
  replace MS1 := Lib.hid (MS1.out.kept kn)
  replace MA := Lib.hid (MA.out.kept kn)
  replace LA := Lib.hid (lys_kept LA.out kn)
  replace MS2 := Lib.hid (MS2.out.kept kn)
  replace MB := Lib.hid (MB.out.kept kn)
  replace kq := Lib.hid (kq.out.trans kn)
  clear kn
  go_wp2_with (fail)
  refine (ke2 ▸ enters_c threeW none 0 [] bD (-4) zW none 0 [] (-4) y21 (HTb.out.kept kq.out) Row.nil Row.nil (small1 (by decide)) (small1 (by decide)) (by decide)).mono ?_
  rintro e y22 ⟨rfl, kn⟩
  replace HT := Lib.hid (tab_kept HT.out kn)
  replace BNU := Lib.hid (BNU.out.kept kn)
  replace MS1 := Lib.hid (MS1.out.kept kn)
  replace MA := Lib.hid (MA.out.kept kn)
  replace LA := Lib.hid (lys_kept LA.out kn)
  replace MS2 := Lib.hid (MS2.out.kept kn)
  replace MB := Lib.hid (MB.out.kept kn)
  replace kq := Lib.hid (kq.out.trans kn)
  clear kn
  go_wp2_with (fail)
  refine (three_c y22).mono ?_
  rintro e y23 ⟨rfl, kn⟩
  replace HT := Lib.hid (tab_kept HT.out kn)
  replace BNU := Lib.hid (BNU.out.kept kn)
  replace MS1 := Lib.hid (MS1.out.kept kn)
  replace MA := Lib.hid (MA.out.kept kn)
  replace LA := Lib.hid (lys_kept LA.out kn)
  replace MS2 := Lib.hid (MS2.out.kept kn)
  replace MB := Lib.hid (MB.out.kept kn)
  replace kq := Lib.hid (kq.out.trans kn)
  clear kn
  go_wp2_with (fail)
  refine (oleave_c false threeW none 0 [] ta tcp someT bD 1 y23 HT.out some_small (HTb.out.kept kq.out) Row.nil (small1 (by decide)) (small1 (by decide)) (by decide)).mono ?_
  rintro e y24 ⟨kn, hlv⟩
  rw [kl1] at hlv
  obtain ⟨lva, lvc, rfl, hlr, _⟩ := hlv
  have LV := Lib.hid (owns_lys hlr (by simp))
  clear hlr
  replace HT := Lib.hid (tab_kept HT.out kn)
  replace BNU := Lib.hid (BNU.out.kept kn)
  replace MS1 := Lib.hid (MS1.out.kept kn)
  replace MA := Lib.hid (MA.out.kept kn)
  replace LA := Lib.hid (lys_kept LA.out kn)
  replace MS2 := Lib.hid (MS2.out.kept kn)
  replace MB := Lib.hid (MB.out.kept kn)
  replace kq := Lib.hid (kq.out.trans kn)
  clear kn
  go_wp2_with (fail)
  refine (three_c y24).mono ?_
  rintro e y25 ⟨rfl, kn⟩
  replace HT := Lib.hid (tab_kept HT.out kn)
  replace BNU := Lib.hid (BNU.out.kept kn)
  replace MS1 := Lib.hid (MS1.out.kept kn)
  replace MA := Lib.hid (MA.out.kept kn)
  replace LA := Lib.hid (lys_kept LA.out kn)
  replace MS2 := Lib.hid (MS2.out.kept kn)
  replace MB := Lib.hid (MB.out.kept kn)
  replace LV := Lib.hid (lys_kept LV.out kn)
  replace kq := Lib.hid (kq.out.trans kn)
  clear kn
  go_wp2_with (fail)
  refine (sameV_y threeW [] lva none lvc 0 y25 LV.out Row.nil).mono ?_
  rintro e y26 ⟨rfl, kn⟩
  replace HT := Lib.hid (tab_kept HT.out kn)
  replace BNU := Lib.hid (BNU.out.kept kn)
  replace MS1 := Lib.hid (MS1.out.kept kn)
  replace MA := Lib.hid (MA.out.kept kn)
  replace LA := Lib.hid (lys_kept LA.out kn)
  replace MS2 := Lib.hid (MS2.out.kept kn)
  replace MB := Lib.hid (MB.out.kept kn)
  replace LV := Lib.hid (lys_kept LV.out kn)
  replace kq := Lib.hid (kq.out.trans kn)
  clear kn
  go_wp2_with (fail)
  refine (in_c bC (-1) y26).mono ?_
  rintro e y27 ⟨rfl, kn⟩
  replace HT := Lib.hid (tab_kept HT.out kn)
  replace BNU := Lib.hid (BNU.out.kept kn)
  replace MS1 := Lib.hid (MS1.out.kept kn)
  replace MA := Lib.hid (MA.out.kept kn)
  replace LA := Lib.hid (lys_kept LA.out kn)
  replace MS2 := Lib.hid (MS2.out.kept kn)
  replace MB := Lib.hid (MB.out.kept kn)
  replace LV := Lib.hid (lys_kept LV.out kn)
  replace kq := Lib.hid (kq.out.trans kn)
  clear kn
  go_wp2_with (fail)
  refine (out_cc bC 1 y27).mono ?_
  rintro e y28 ⟨rfl, kn⟩
  replace HT := Lib.hid (tab_kept HT.out kn)
  replace BNU := Lib.hid (BNU.out.kept kn)
  replace MS1 := Lib.hid (MS1.out.kept kn)
  replace MA := Lib.hid (MA.out.kept kn)
  replace LA := Lib.hid (lys_kept LA.out kn)
  replace MS2 := Lib.hid (MS2.out.kept kn)
  replace MB := Lib.hid (MB.out.kept kn)
  replace LV := Lib.hid (lys_kept LV.out kn)
  replace kq := Lib.hid (kq.out.trans kn)
  clear kn
  obtain ⟨y29, hn⟩ : ∃ W, y28.alloc (.cells #[.bool false, .string bC, .int .i64 (-1), .bool true, .string bC, .int .i64 1] lT) = W := ⟨_, rfl⟩
  have kn : Kept y28 y29 := by rw [← hn]; exact (Kept.refl _).alloc _
  obtain ⟨lc, hqlc⟩ : ∃ q, y28.heap.size = q := ⟨_, rfl⟩
  have LC := Lib.hid (show LysAt y29 (.slice (some ⟨lc, 0, none⟩) cL.length 2) cL from lys_lit2 (by rw [← hn, ← hqlc]; exact Blk.new _ _ _) (small1 (by decide)) (small1 (by decide)))
  have HNy29 := Lib.hid hn
  clear hn
  replace HT := Lib.hid (tab_kept HT.out kn)
  replace BNU := Lib.hid (BNU.out.kept kn)
  replace MS1 := Lib.hid (MS1.out.kept kn)
  replace MA := Lib.hid (MA.out.kept kn)
  replace LA := Lib.hid (lys_kept LA.out kn)
  replace MS2 := Lib.hid (MS2.out.kept kn)
  replace MB := Lib.hid (MB.out.kept kn)
  replace LV := Lib.hid (lys_kept LV.out kn)
  replace kq := Lib.hid (kq.out.trans kn)
  clear kn
  go_wp2_with (first | rw [HNy29.out] | rw [hqlc])
  refine (obj_c bC (some ⟨lc, 0, none⟩) 2 2 y29).mono ?_
  rintro e y30 ⟨rfl, kn⟩
  replace HT := Lib.hid (tab_kept HT.out kn)
  replace BNU := Lib.hid (BNU.out.kept kn)
  replace MS1 := Lib.hid (MS1.out.kept kn)
  replace MA := Lib.hid (MA.out.kept kn)
  replace LA := Lib.hid (lys_kept LA.out kn)
  replace MS2 := Lib.hid (MS2.out.kept kn)
  replace MB := Lib.hid (MB.out.kept kn)
  replace LV := Lib.hid (lys_kept LV.out kn)
  replace LC := Lib.hid (lys_kept LC.out kn)
  replace kq := Lib.hid (kq.out.trans kn)
  clear kn
  go_wp2_with (fail)
  refine (three_c y30).mono ?_
  rintro e y31 ⟨rfl, kn⟩
  replace HT := Lib.hid (tab_kept HT.out kn)
  replace BNU := Lib.hid (BNU.out.kept kn)
  replace MS1 := Lib.hid (MS1.out.kept kn)
  replace MA := Lib.hid (MA.out.kept kn)
  replace LA := Lib.hid (lys_kept LA.out kn)
  replace MS2 := Lib.hid (MS2.out.kept kn)
  replace MB := Lib.hid (MB.out.kept kn)
  replace LV := Lib.hid (lys_kept LV.out kn)
  replace LC := Lib.hid (lys_kept LC.out kn)
  replace kq := Lib.hid (kq.out.trans kn)
  clear kn
  go_wp2_with (fail)
  refine (ki_c ta tcp lc y31 HT.out (HTb.out.kept kq.out) LC.out).mono ?_
  rintro e y32 ⟨xa, xc, rfl, hly, kn⟩
  have LX := Lib.hid hly
  clear hly
  replace HT := Lib.hid (tab_kept HT.out kn)
  replace BNU := Lib.hid (BNU.out.kept kn)
  replace MS1 := Lib.hid (MS1.out.kept kn)
  replace MA := Lib.hid (MA.out.kept kn)
  replace LA := Lib.hid (lys_kept LA.out kn)
  replace MS2 := Lib.hid (MS2.out.kept kn)
  replace MB := Lib.hid (MB.out.kept kn)
  replace LV := Lib.hid (lys_kept LV.out kn)
  replace LC := Lib.hid (lys_kept LC.out kn)
  replace kq := Lib.hid (kq.out.trans kn)
  clear kn
  obtain ⟨y33, hn⟩ : ∃ W, y32.alloc (.cells #[.int .i64 1, .int .i64 3, .int .u64 0, .string e0w, .slice xa 0 xc] uT) = W := ⟨_, rfl⟩
  have kn : Kept y32 y33 := by rw [← hn]; exact (Kept.refl _).alloc _
  obtain ⟨bx1, hqbx⟩ : ∃ q, y32.heap.size = q := ⟨_, rfl⟩
  have BX := Lib.hid (show Blk y33 bx1 uT #[.int .i64 1, .int .i64 3, .int .u64 0, .string e0w, .slice xa 0 xc] from (by rw [← hn, ← hqbx]; exact Blk.new _ _ _))
  have HNy33 := Lib.hid hn
  clear hn
  replace HT := Lib.hid (tab_kept HT.out kn)
  replace BNU := Lib.hid (BNU.out.kept kn)
  replace MS1 := Lib.hid (MS1.out.kept kn)
  replace MA := Lib.hid (MA.out.kept kn)
  replace LA := Lib.hid (lys_kept LA.out kn)
  replace MS2 := Lib.hid (MS2.out.kept kn)
  replace MB := Lib.hid (MB.out.kept kn)
  replace LV := Lib.hid (lys_kept LV.out kn)
  replace LC := Lib.hid (lys_kept LC.out kn)
  replace LX := Lib.hid (lys_kept LX.out kn)
  replace kq := Lib.hid (kq.out.trans kn)
  clear kn
  go_wp2_with (first | rw [HNy33.out] | rw [hqbx])
  obtain ⟨E, hE⟩ : ∃ E, y33.drew = E := ⟨_, rfl⟩
  have kE : Kept y33 E := by rw [← hE]; exact (Kept.refl _).drew
  replace BX := Lib.hid (BX.out.kept kE)
  replace LX := Lib.hid (lys_kept LX.out kE)
  replace kq := Lib.hid (kq.out.trans kE)
  clear kE
  obtain ⟨⟨g0, g1, g2, g3, g4⟩, _⟩ := blk5u BX.out
  have hS5 := fun W (k : Kept E W) => And.intro (k.cell g0) (And.intro (k.cell g1) (And.intro (k.cell g2) (And.intro (k.cell g3) (k.cell g4))))
  refine wp_region_held_drew (S := (fun W => W.cell? ⟨bx1, 0, none⟩ = some (.int .i64 1) ∧ W.cell? ⟨bx1, 1, none⟩ = some (.int .i64 3) ∧ W.cell? ⟨bx1, 2, none⟩ = some (.int .u64 0) ∧ W.cell? ⟨bx1, 3, none⟩ = some (.string e0w) ∧ W.cell? ⟨bx1, 4, none⟩ = some (.slice xa 0 xc))) (by kernel_rfl) (by rw [hE]; exact hS5 E (Kept.refl _)) (fun hHeld0 => ?_)
  rw [hE] at hHeld0 ⊢
  clear hE
  have kr : Kept E E := Kept.refl _
  refine wpAnyH_ready (rs := [0]) (by kernel_rfl) (by simp) ?_
  refine AllReadyH.cons rfl (fun K hK => ?_) AllReadyH.nil
  go_simp
  refine (awake_c E (HTb.out.kept kq.out)).mono ?_
  rintro e z1 ⟨rfl, kn⟩
  replace kr := kr.trans kn
  clear kn
  refine hK.out _ _ (hS5 _ kr) (fun hHeld1 => ?_)
  clear hK K
  (try simp only [Act.put, List.getElem_toArray, List.getElem_cons_zero, List.getElem_cons_succ, List.setIfInBounds_toArray, List.set_cons_zero, List.set_cons_succ])
  refine wpAnyH_take (i := 1) (v := ?_) rfl (by kernel_rfl) (by kernel_rfl) (by kernel_rfl) (fun _ _ _ h => h) (Or.inl ⟨by kernel_rfl, ?_⟩) (by assumption) ?_
  rotate_left
  · intro w hSw; (try dsimp only at hSw); go_simp; (try with_reducible rfl)
  (try simp only [Act.put, List.getElem_toArray, List.getElem_cons_zero, List.getElem_cons_succ, List.setIfInBounds_toArray, List.set_cons_zero, List.set_cons_succ])
  refine wpAnyH_take (i := 2) (v := ?_) rfl (by kernel_rfl) (by kernel_rfl) (by kernel_rfl) (fun _ _ _ h => h) (Or.inl ⟨by kernel_rfl, ?_⟩) (by assumption) ?_
  rotate_left
  · intro w hSw; (try dsimp only at hSw); go_simp; (try with_reducible rfl)
  (try simp only [Act.put, List.getElem_toArray, List.getElem_cons_zero, List.getElem_cons_succ, List.setIfInBounds_toArray, List.set_cons_zero, List.set_cons_succ])
  refine wpAnyH_take (i := 3) (v := ?_) rfl (by kernel_rfl) (by kernel_rfl) (by kernel_rfl) (fun _ _ _ h => h) (Or.inl ⟨by kernel_rfl, ?_⟩) (by assumption) ?_
  rotate_left
  · intro w hSw; (try dsimp only at hSw); go_simp; (try with_reducible rfl)
  (try simp only [Act.put, List.getElem_toArray, List.getElem_cons_zero, List.getElem_cons_succ, List.setIfInBounds_toArray, List.set_cons_zero, List.set_cons_succ])
  refine wpAnyH_take (i := 4) (v := ?_) rfl (by kernel_rfl) (by kernel_rfl) (by kernel_rfl) (fun _ _ _ h => h) (Or.inl ⟨by kernel_rfl, ?_⟩) (by assumption) ?_
  rotate_left
  · intro w hSw; (try dsimp only at hSw); go_simp; (try with_reducible rfl)
  (try simp only [Act.put, List.getElem_toArray, List.getElem_cons_zero, List.getElem_cons_succ, List.setIfInBounds_toArray, List.set_cons_zero, List.set_cons_succ])
  refine wpAnyH_take (i := 5) (v := ?_) rfl (by kernel_rfl) (by kernel_rfl) (by kernel_rfl) (fun _ _ _ h => h) (Or.inl ⟨by kernel_rfl, ?_⟩) (by assumption) ?_
  rotate_left
  · intro w hSw; (try dsimp only at hSw); go_simp; (try with_reducible rfl)
  (try simp only [Act.put, List.getElem_toArray, List.getElem_cons_zero, List.getElem_cons_succ, List.setIfInBounds_toArray, List.set_cons_zero, List.set_cons_succ])
  refine wpAnyH_take (i := 6) (v := ?_) rfl (by kernel_rfl) (by kernel_rfl) (by kernel_rfl) (fun _ _ _ h => h) (Or.inl ⟨by kernel_rfl, ?_⟩) (by assumption) ?_
  rotate_left
  · intro w hSw; (try dsimp only at hSw); go_simp; (try with_reducible rfl)
  (try simp only [Act.put, List.getElem_toArray, List.getElem_cons_zero, List.getElem_cons_succ, List.setIfInBounds_toArray, List.set_cons_zero, List.set_cons_succ])
  refine wpAnyH_take (i := 7) (v := ?_) rfl (by kernel_rfl) (by kernel_rfl) (by kernel_rfl) (fun _ _ _ h => h) (Or.inl ⟨by kernel_rfl, ?_⟩) (by assumption) ?_
  rotate_left
  · intro w hSw; (try dsimp only at hSw); go_simp; (try with_reducible rfl)
  (try simp only [Act.put, List.getElem_toArray, List.getElem_cons_zero, List.getElem_cons_succ, List.setIfInBounds_toArray, List.set_cons_zero, List.set_cons_succ])
  refine wpAnyH_take (i := 8) (v := ?_) rfl (by kernel_rfl) (by kernel_rfl) (by kernel_rfl) (fun _ _ _ h => h) (Or.inl ⟨by kernel_rfl, ?_⟩) (by assumption) ?_
  rotate_left
  · intro w hSw; (try dsimp only at hSw); go_simp; (try with_reducible rfl)
  (try simp only [Act.put, List.getElem_toArray, List.getElem_cons_zero, List.getElem_cons_succ, List.setIfInBounds_toArray, List.set_cons_zero, List.set_cons_succ])
  refine wpAnyH_take (i := 9) (v := ?_) rfl (by kernel_rfl) (by kernel_rfl) (by kernel_rfl) (fun _ _ _ h => h) (Or.inl ⟨by kernel_rfl, ?_⟩) (by assumption) ?_
  rotate_left
  · intro w hSw; (try dsimp only at hSw); go_simp; (try with_reducible rfl)
  (try simp only [Act.put, List.getElem_toArray, List.getElem_cons_zero, List.getElem_cons_succ, List.setIfInBounds_toArray, List.set_cons_zero, List.set_cons_succ])
  refine wpAnyH_take (i := 10) (v := ?_) rfl (by kernel_rfl) (by kernel_rfl) (by kernel_rfl) (fun _ _ _ h => h) (Or.inl ⟨by kernel_rfl, ?_⟩) (by assumption) ?_
  rotate_left
  · intro w hSw; (try dsimp only at hSw); go_simp; (try with_reducible rfl)
  (try simp only [Act.put, List.getElem_toArray, List.getElem_cons_zero, List.getElem_cons_succ, List.setIfInBounds_toArray, List.set_cons_zero, List.set_cons_succ])
  refine wpAnyH_take (i := 11) (v := ?_) rfl (by kernel_rfl) (by kernel_rfl) (by kernel_rfl) (fun _ _ _ h => h) (Or.inl ⟨by kernel_rfl, ?_⟩) (by assumption) ?_
  rotate_left
  · intro w hSw; (try dsimp only at hSw); go_simp; (try with_reducible rfl)
  (try simp only [Act.put, List.getElem_toArray, List.getElem_cons_zero, List.getElem_cons_succ, List.setIfInBounds_toArray, List.set_cons_zero, List.set_cons_succ])
  refine wpAnyH_take (i := 12) (v := ?_) rfl (by kernel_rfl) (by kernel_rfl) (by kernel_rfl) (fun _ _ _ h => h) (Or.inl ⟨by kernel_rfl, ?_⟩) (by assumption) ?_
  rotate_left
  · intro w hSw; (try dsimp only at hSw); go_simp; (try with_reducible rfl)
  (try simp only [Act.put, List.getElem_toArray, List.getElem_cons_zero, List.getElem_cons_succ, List.setIfInBounds_toArray, List.set_cons_zero, List.set_cons_succ])
  refine wpAnyH_ready (rs := [13]) (by kernel_rfl) (by simp) ?_
  refine AllReadyH.cons rfl (fun K hK => ?_) AllReadyH.nil
  go_simp
  refine (three_c z1).mono ?_
  rintro e z2 ⟨rfl, kn⟩
  replace kr := kr.trans kn
  clear kn
  refine hK.out _ _ (hS5 _ kr) (fun hHeld2 => ?_)
  clear hK K
  (try simp only [Act.put, List.getElem_toArray, List.getElem_cons_zero, List.getElem_cons_succ, List.setIfInBounds_toArray, List.set_cons_zero, List.set_cons_succ])
  refine wpAnyH_ready (rs := [14]) (by kernel_rfl) (by simp) ?_
  refine AllReadyH.cons rfl (fun K hK => ?_) AllReadyH.nil
  go_simp
  refine (sameV_y threeW [] xa none xc 0 z2 (lys_kept LX.out kr) Row.nil).mono ?_
  rintro e z3 ⟨rfl, kn⟩
  replace kr := kr.trans kn
  clear kn
  refine hK.out _ _ (hS5 _ kr) (fun hHeld3 => ?_)
  clear hK K
  (try simp only [Act.put, List.getElem_toArray, List.getElem_cons_zero, List.getElem_cons_succ, List.setIfInBounds_toArray, List.set_cons_zero, List.set_cons_succ])
  refine wpAnyH_take (i := 15) (v := ?_) rfl (by kernel_rfl) (by kernel_rfl) (by kernel_rfl) (fun _ _ _ h => h) (Or.inl ⟨by kernel_rfl, ?_⟩) (by assumption) ?_
  rotate_left
  · intro w hSw; (try dsimp only at hSw); go_simp; (try with_reducible rfl)
  (try simp only [Act.put, List.getElem_toArray, List.getElem_cons_zero, List.getElem_cons_succ, List.setIfInBounds_toArray, List.set_cons_zero, List.set_cons_succ])
  refine wpAnyH_take (i := 16) (v := ?_) rfl (by kernel_rfl) (by kernel_rfl) (by kernel_rfl) (fun _ _ _ h => h) (Or.inl ⟨by kernel_rfl, ?_⟩) (by assumption) ?_
  rotate_left
  · intro w hSw; (try dsimp only at hSw); go_simp; (try with_reducible rfl)
  (try simp only [Act.put, List.getElem_toArray, List.getElem_cons_zero, List.getElem_cons_succ, List.setIfInBounds_toArray, List.set_cons_zero, List.set_cons_succ])
  refine wpAnyH_done (by kernel_rfl) ?_ _
  go_wp2_with fail
  go_ret
  exact ⟨rfl, kq.out.trans kr⟩
end Go.Proofs.YtdceafncncgfbaaDoor
