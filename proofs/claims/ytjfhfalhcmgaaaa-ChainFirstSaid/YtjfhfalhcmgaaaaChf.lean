/- The statement ChainFirst: its walk over any numbers. -/
import Derived.Test.YtjfhfalhcmgaaaaCha
import Derived.OrdersHeld
import Derived.Deep.RegionHeld3
set_option linter.unusedSimpArgs false
set_option linter.unusedVariables false
set_option maxRecDepth 100000
namespace Go.Proofs.Ytjfhfalhcmgaaaa
open Go.ChangeShapes Go.WideShapes Go.ChangeAt Go.RowKit

theorem prepZ (W : World) : ∃ X, W.alloc (.cells #[.bool false, .string ⟨#[]⟩, .int .i64 0] 24) = X ∧ Blk X W.heap.size 24 #[.bool false, .string ⟨#[]⟩, .int .i64 0] ∧ Kept W X ∧ X.heap.size = W.heap.size + 1 :=
  ⟨_, rfl, Blk.new W _ _, (Kept.refl W).alloc _, by simp⟩
theorem prepS (x : Ly) (W : World) {g : Nat} (h : Blk W g 24 #[.bool false, .string ⟨#[]⟩, .int .i64 0]) : ∃ X, ((W.setCell ⟨g, 0, none⟩ (.bool x.out)).setCell ⟨g, 1, none⟩ (.string x.cls)).setCell ⟨g, 2, none⟩ (.int .i64 x.lab) = X ∧ Blk X g 24 #[.bool x.out, .string x.cls, .int .i64 x.lab] ∧ X.heap.size = W.heap.size ∧ X.heap.size = W.heap.size ∧ Only (· = g) W X :=
  ⟨_, rfl, ((h.put 0 _).put 1 _).put 2 _, by simp, by simp, (((Only.refl _ W).put 0 _).put 1 _).put 2 _⟩
theorem Kept.onlyT {a w w' : World} {g : Nat} (h : Kept a w) (ho : Only (· = g) w w') (hg : a.heap.size ≤ g) : Kept a w' := h.only ho rfl (fun k e => by subst e; exact hg)
theorem World.size_drew (W : World) : W.drew.heap.size = W.heap.size := rfl

set_option maxHeartbeats 32000000 in
theorem first_c (ns : List Int) (a : Option Addr) (cp : Nat) (x1 x2 : Int) (w : World) (h : IntsAt w (.slice a ns.length cp) ns) (p1 : -9223372036854775808 ≤ x1) (q1 : x1 ≤ 9223372036854775807) (p2 : -9223372036854775808 ≤ x2) (q2 : x2 ≤ 9223372036854775807) :
    Calls Try.prog 7 #[.slice a ns.length cp, .int .i64 x1, .int .i64 x2] w fun e w' => e = .returned (.bool true) ∧ Kept w w' := by
  have hlm := h.len
  unfold maxLen at hlm
  have HI := Lib.hid h
  clear h
  go_enter Try.func7, Try.ntmps7
  go_wp2_with fail
  refine (known_cc w).mono ?_
  rintro e w1 ⟨rfl, k1⟩
  have HK := Lib.hid k1
  clear k1
  by_cases hl : 60 < ns.length
  · have hlI : (60 : Int) < (ns.length : Int) := by omega
    go_wp2_with fail
    go_ret
    exact ⟨rfl, HK.out⟩
  · have hlI : ¬ (60 : Int) < (ns.length : Int) := by omega
    have HM := Lib.hid (made_c ns _ w1 (ints_kept HI.out HK.out) (by omega))
    have HL60 := Lib.hid (show (madeV ns).length ≤ 60 by rw [made_len]; omega)
    have HF := Lib.hid (made_fine ns)
    have HL2 := Lib.hid (show ∀ W (k : Kept w1 W), IntsAt W (.slice a ns.length cp) ns from fun W k => ints_kept HI.out (HK.out.trans k))
    go_wp2_with fail
    refine HM.out.mono ?_
    intro e w2 hm
    obtain ⟨la, lc, rfl, hly, k2⟩ := ownL_lys hm HF.out
    clear hm
    generalize madeV ns = l at *
    have HLY := Lib.hid hly
    have HK2 := Lib.hid (HK.out.trans k2)
    have HN := Lib.hid (norm_c l _ w2 hly (by have := HL60.out; omega))
    clear hly k2 HM
    go_wp2_with fail
    refine HN.out.mono ?_
    rintro e w3 ⟨na, nc, rfl, hown, k3⟩
    have HNY := Lib.hid (owns_lys hown (fine_norm HF.out))
    have HLY3 := Lib.hid (lys_kept HLY.out k3)
    have HK3 := Lib.hid (HK2.out.trans k3)
    clear hown k3 HLY HN
    -- the two letters
    obtain ⟨W4, hW4⟩ : ∃ W4, w3.alloc (.cells #[.int .i64 x1, .int .i64 x2] 3) = W4 := ⟨_, rfl⟩
    have k4 : Kept w3 W4 := by rw [← hW4]; exact (Kept.refl w3).alloc _
    have b4 : Blk W4 w3.heap.size 3 #[.int .i64 x1, .int .i64 x2] := by rw [← hW4]; exact Blk.new w3 _ _
    have hi4 : IntsAt W4 (.slice (some ⟨w3.heap.size, 0, none⟩) [x1, x2].length 2) [x1, x2] := by
      refine ⟨_, 2, rfl, Nat.le_refl _, by decide, fun i y hy => ⟨_, 0, rfl, ?_⟩⟩
      have c0 := b4.cell i
      rcases (show i = 0 ∨ i = 1 by have := (List.getElem?_eq_some_iff.1 hy).1; simp at this; omega) with rfl | rfl
      · simp at hy; subst hy; exact ⟨by simpa using c0, p1, q1⟩
      · simp at hy; subst hy; exact ⟨by simpa using c0, p2, q2⟩
    have HM2 := Lib.hid (made_c [x1, x2] _ W4 hi4 (by simp))
    have HK4 := Lib.hid (HK3.out.trans k4)
    have HLY4 := Lib.hid (lys_kept HLY3.out k4)
    have HNY4 := Lib.hid (lys_kept HNY.out k4)
    have HW4 := Lib.hid hW4
    rw [show [x1, x2].length = 2 from rfl] at HM2
    clear k4 b4 hi4 hW4 HLY3 HNY
    go_wp2_with fail
    rw [HW4.out]
    refine HM2.out.mono ?_
    intro e w5 hm
    obtain ⟨pa, pc, rfl, hpy, k5⟩ := ownL_lys hm (made_fine _)
    have HK5 := Lib.hid (HK4.out.trans k5)
    have HLY5 := Lib.hid (lys_kept HLY4.out k5)
    have HNY5 := Lib.hid (lys_kept HNY4.out k5)
    have h20 : ∃ u v : Ly, madeV [x1, x2] = [u, v] := ⟨_, _, rfl⟩
    obtain ⟨u, v, huv⟩ := h20
    rw [huv] at hpy ⊢
    rw [show [u, v].length = 2 from rfl] at hpy ⊢
    obtain ⟨_, _, e0, _, _, hat⟩ := hpy
    injection e0 with e1 _ e3
    subst e1 e3
    obtain ⟨pb, po, rfl, hu⟩ := hat 0 u rfl
    obtain ⟨_, _, e2, hv⟩ := hat 1 v rfl
    cases e2
    obtain ⟨u0, u1, u2, u3⟩ := hu
    obtain ⟨v0, v1, v2, v3⟩ := hv
    rw [show po + 0 * 3 = po by omega] at u0 u1 u2
    rw [show po + 1 * 3 = po + 3 by omega] at v0 v1 v2
    have HU := Lib.hid (And.intro u0 (And.intro u1 (And.intro u2 (And.intro v0 (And.intro v1 v2)))))
    obtain ⟨n, hn⟩ : ∃ n, n = Chn.norm ky l := ⟨_, rfl⟩
    have HBE := Lib.hid (show behV (ky u) (ky v) n = behV (ky u) (ky v) l by rw [hn]; exact behV_norm _ _ _)
    have HRN := Lib.hid (show n.reverse = Chn.norm ky l.reverse by rw [hn]; exact rev_norm l)
    have HBR := Lib.hid (show behV (ky u) (ky v) (Chn.norm ky l.reverse) = behV (ky u) (ky v) l.reverse from behV_norm _ _ _)
    have HFR := Lib.hid (show ∀ x ∈ l.reverse, x.cls.size ≤ maxLen from fun x hx => HF.out x (List.mem_reverse.1 hx))
    have HNR := Lib.hid (show ∀ x ∈ n.reverse, x.cls.size ≤ maxLen from fun x hx => by rw [hn] at hx; exact fine_norm HF.out x (List.mem_reverse.1 hx))
    obtain ⟨bq, hbq⟩ : ∃ b, behV (ky u) (ky v) l = b := ⟨_, rfl⟩
    obtain ⟨bp, hbp⟩ : ∃ b, behV (ky u) (ky v) l.reverse = b := ⟨_, rfl⟩
    have HBQ := Lib.hid hbq
    have HBP := Lib.hid hbp
    have hl60 := HL60.out
    have hn60 : n.length ≤ 60 := by rw [hn]; exact Nat.le_trans (norm_le l) hl60
    rw [← hn] at HNY5 ⊢
    clear hm huv k5 hat HLY4 HNY4 HM2 u0 u1 u2 v0 v1 v2 hn hbq hbp
    go_wp2_with fail
    have HKB := Lib.hid (Kept.refl w5.drew)
    refine wp_region_held_drew (S := (fun W => W.cell? ⟨pb, po, none⟩ = some (.bool u.out) ∧ W.cell? ⟨pb, po + 1, none⟩ = some (.string u.cls) ∧ W.cell? ⟨pb, po + 2, none⟩ = some (.int .i64 u.lab) ∧ W.cell? ⟨pb, po + 3, none⟩ = some (.bool v.out) ∧ W.cell? ⟨pb, po + 3 + 1, none⟩ = some (.string v.cls) ∧ W.cell? ⟨pb, po + 3 + 2, none⟩ = some (.int .i64 v.lab) ∧ Kept w5.drew W)) (by kernel_rfl) ⟨HKB.out.cell HU.out.1, HKB.out.cell HU.out.2.1, HKB.out.cell HU.out.2.2.1, HKB.out.cell HU.out.2.2.2.1, HKB.out.cell HU.out.2.2.2.2.1, HKB.out.cell HU.out.2.2.2.2.2, HKB.out⟩ (fun hHeld0 => ?_)
    refine wpAnyH_take (i := 0) (v := ?_) rfl (by kernel_rfl) (by kernel_rfl) (by kernel_rfl) (fun _ _ _ h => h) (Or.inl ⟨by kernel_rfl, ?_⟩) (by assumption) ?_
    rotate_left
    · intro w hSw; (try dsimp only at hSw); go_simp; (try with_reducible rfl)
    (try simp only [Act.put, List.getElem_toArray, List.getElem_cons_zero, List.getElem_cons_succ, List.setIfInBounds_toArray, List.set_cons_zero, List.set_cons_succ])
    refine wpAnyH_take (i := 1) (v := ?_) rfl (by kernel_rfl) (by kernel_rfl) (by kernel_rfl) (fun _ _ _ h => h) (Or.inl ⟨by kernel_rfl, ?_⟩) (by assumption) ?_
    rotate_left
    · intro w hSw; (try dsimp only at hSw); go_simp; (try with_reducible rfl)
    (try simp only [Act.put, List.getElem_toArray, List.getElem_cons_zero, List.getElem_cons_succ, List.setIfInBounds_toArray, List.set_cons_zero, List.set_cons_succ])
    refine wpAnyH_take (i := 2) (v := ?_) rfl (by kernel_rfl) (by kernel_rfl) (by kernel_rfl) (fun _ _ _ h => h) (Or.inl ⟨by kernel_rfl, ?_⟩) (by assumption) ?_
    rotate_left
    · intro w hSw; (try dsimp only at hSw); go_simp; (try with_reducible rfl)
    (try simp only [Act.put, List.getElem_toArray, List.getElem_cons_zero, List.getElem_cons_succ, List.setIfInBounds_toArray, List.set_cons_zero, List.set_cons_succ])
    refine wpAnyH_take (i := 3) (v := ?_) rfl (by kernel_rfl) (by kernel_rfl) (by kernel_rfl) (fun _ _ _ h => h) (Or.inl ⟨by kernel_rfl, ?_⟩) (by assumption) ?_
    rotate_left
    · intro w hSw; (try dsimp only at hSw); go_simp; (try with_reducible rfl)
    (try simp only [Act.put, List.getElem_toArray, List.getElem_cons_zero, List.getElem_cons_succ, List.setIfInBounds_toArray, List.set_cons_zero, List.set_cons_succ])
    refine wpAnyH_take (i := 4) (v := ?_) rfl (by kernel_rfl) (by kernel_rfl) (by kernel_rfl) (fun _ _ _ h => h) (Or.inl ⟨by kernel_rfl, ?_⟩) (by assumption) ?_
    rotate_left
    · intro w hSw; (try dsimp only at hSw); go_simp; (try with_reducible rfl)
    (try simp only [Act.put, List.getElem_toArray, List.getElem_cons_zero, List.getElem_cons_succ, List.setIfInBounds_toArray, List.set_cons_zero, List.set_cons_succ])
    refine wpAnyH_take (i := 5) (v := ?_) rfl (by kernel_rfl) (by kernel_rfl) (by kernel_rfl) (fun _ _ _ h => h) (Or.inl ⟨by kernel_rfl, ?_⟩) (by assumption) ?_
    rotate_left
    · intro w hSw; (try dsimp only at hSw); go_simp; (try with_reducible rfl)
    (try simp only [Act.put, List.getElem_toArray, List.getElem_cons_zero, List.getElem_cons_succ, List.setIfInBounds_toArray, List.set_cons_zero, List.set_cons_succ])
    refine wpAnyH_ready (rs := [6, 7]) (by kernel_rfl) (by simp) ?_
    refine AllReadyH.cons rfl (fun K hK => ?_) ?_
    · skip
      obtain ⟨X1, hX1, fX1, kX1, sX1⟩ := prepZ w5.drew
      rw [World.size_drew] at fX1 sX1
      have HKB := Lib.hid (HKB.out.trans kX1)
      go_simp
      (try rw [show w5.drew.alloc (.cells #[.bool false, .string ⟨#[]⟩, .int .i64 0] 24) = X1 from hX1])
      clear hX1
      refine hK.out _ _ ⟨HKB.out.cell HU.out.1, HKB.out.cell HU.out.2.1, HKB.out.cell HU.out.2.2.1, HKB.out.cell HU.out.2.2.2.1, HKB.out.cell HU.out.2.2.2.2.1, HKB.out.cell HU.out.2.2.2.2.2, HKB.out⟩ (fun hHeld21 => ?_)
      clear hK K
      (try simp only [Act.put, List.getElem_toArray, List.getElem_cons_zero, List.getElem_cons_succ, List.setIfInBounds_toArray, List.set_cons_zero, List.set_cons_succ])
      refine wpAnyH_ready (rs := [7]) (by kernel_rfl) (by simp) ?_
      refine AllReadyH.cons rfl (fun K hK => ?_) AllReadyH.nil
      obtain ⟨X2, hX2, fX2, kX2, sX2⟩ := prepZ X1
      rw [sX1] at fX2 sX2
      have HKB := Lib.hid (HKB.out.trans kX2)
      go_simp
      (try rw [show X1.alloc (.cells #[.bool false, .string ⟨#[]⟩, .int .i64 0] 24) = X2 from hX2])
      clear hX2
      refine hK.out _ _ ⟨HKB.out.cell HU.out.1, HKB.out.cell HU.out.2.1, HKB.out.cell HU.out.2.2.1, HKB.out.cell HU.out.2.2.2.1, HKB.out.cell HU.out.2.2.2.2.1, HKB.out.cell HU.out.2.2.2.2.2, HKB.out⟩ (fun hHeld22 => ?_)
      clear hK K
      (try simp only [Act.put, List.getElem_toArray, List.getElem_cons_zero, List.getElem_cons_succ, List.setIfInBounds_toArray, List.set_cons_zero, List.set_cons_succ])
      refine wpAnyH_ready (rs := [8]) (by kernel_rfl) (by simp) ?_
      refine AllReadyH.cons rfl (fun K hK => ?_) AllReadyH.nil
      obtain ⟨X3, hX3, fX3, kX3, sX3, oX3⟩ := prepS u X2 ((fX1).kept kX2)
      have HKB := Lib.hid (HKB.out.onlyT oX3 (by show w5.heap.size ≤ _; omega))
      have cX30 := ((fX1).kept kX2).cell 0
      have cX31 := ((fX1).kept kX2).cell 1
      have cX32 := ((fX1).kept kX2).cell 2
      have zX30 := ((fX1).kept kX2).frozen 0
      have zX31 := ((fX1).kept kX2).frozen 1
      have zX32 := ((fX1).kept kX2).frozen 2
      simp only [List.getElem?_toArray, List.getElem?_cons_zero, List.getElem?_cons_succ] at cX30 cX31 cX32
      go_simp
      (try rw [hX3])
      clear hX3 cX30 cX31 cX32 zX30 zX31 zX32
      refine hK.out _ _ ⟨HKB.out.cell HU.out.1, HKB.out.cell HU.out.2.1, HKB.out.cell HU.out.2.2.1, HKB.out.cell HU.out.2.2.2.1, HKB.out.cell HU.out.2.2.2.2.1, HKB.out.cell HU.out.2.2.2.2.2, HKB.out⟩ (fun hHeld23 => ?_)
      clear hK K
      (try simp only [Act.put, List.getElem_toArray, List.getElem_cons_zero, List.getElem_cons_succ, List.setIfInBounds_toArray, List.set_cons_zero, List.set_cons_succ])
      refine wpAnyH_ready (rs := [9]) (by kernel_rfl) (by simp) ?_
      refine AllReadyH.cons rfl (fun K hK => ?_) AllReadyH.nil
      obtain ⟨X4, hX4, fX4, kX4, sX4, oX4⟩ := prepS v X3 ((fX2).only oX3 (by omega))
      have HKB := Lib.hid (HKB.out.onlyT oX4 (by show w5.heap.size ≤ _; omega))
      have cX40 := ((fX2).only oX3 (by omega)).cell 0
      have cX41 := ((fX2).only oX3 (by omega)).cell 1
      have cX42 := ((fX2).only oX3 (by omega)).cell 2
      have zX40 := ((fX2).only oX3 (by omega)).frozen 0
      have zX41 := ((fX2).only oX3 (by omega)).frozen 1
      have zX42 := ((fX2).only oX3 (by omega)).frozen 2
      simp only [List.getElem?_toArray, List.getElem?_cons_zero, List.getElem?_cons_succ] at cX40 cX41 cX42
      go_simp
      (try rw [hX4])
      clear hX4 cX40 cX41 cX42 zX40 zX41 zX42
      refine hK.out _ _ ⟨HKB.out.cell HU.out.1, HKB.out.cell HU.out.2.1, HKB.out.cell HU.out.2.2.1, HKB.out.cell HU.out.2.2.2.1, HKB.out.cell HU.out.2.2.2.2.1, HKB.out.cell HU.out.2.2.2.2.2, HKB.out⟩ (fun hHeld24 => ?_)
      clear hK K
      (try simp only [Act.put, List.getElem_toArray, List.getElem_cons_zero, List.getElem_cons_succ, List.setIfInBounds_toArray, List.set_cons_zero, List.set_cons_succ])
      refine wpAnyH_done (by kernel_rfl) ?_ _
      have HK6 := Lib.hid (HK5.out.drew.trans HKB.out)
      have HLY6 := Lib.hid (lys_kept (lys_kept HLY5.out (Kept.refl _).drew) HKB.out)
      have HNY6 := Lib.hid (lys_kept (lys_kept HNY5.out (Kept.refl _).drew) HKB.out)
      go_wp2_with fail
      have HKB := Lib.hid (Kept.refl X4).drew
      have BU := Lib.hid ((fX3).only oX4 (by omega))
      have BV := Lib.hid (fX4)
      have HC6 := Lib.hid (show X4.drew.cell? ⟨w5.heap.size, 0, none⟩ = some (.bool u.out) ∧ X4.drew.cell? ⟨w5.heap.size, 1, none⟩ = some (.string u.cls) ∧ X4.drew.cell? ⟨w5.heap.size, 2, none⟩ = some (.int .i64 u.lab) ∧ X4.drew.cell? ⟨w5.heap.size + 1, 0, none⟩ = some (.bool v.out) ∧ X4.drew.cell? ⟨w5.heap.size + 1, 1, none⟩ = some (.string v.cls) ∧ X4.drew.cell? ⟨w5.heap.size + 1, 2, none⟩ = some (.int .i64 v.lab) from ⟨by simpa using BU.out.drew.cell 0, by simpa using BU.out.drew.cell 1, by simpa using BU.out.drew.cell 2, by simpa using BV.out.drew.cell 0, by simpa using BV.out.drew.cell 1, by simpa using BV.out.drew.cell 2⟩)
      have HKB := Lib.hid (Kept.refl X4.drew)
      have HKX := Lib.hid (HK6.out.drew)
      have HLX := Lib.hid (lys_kept HLY6.out (Kept.refl _).drew)
      have HNX := Lib.hid (lys_kept HNY6.out (Kept.refl _).drew)
      refine wp_region_held_drew (S := (fun W => W.cell? ⟨w5.heap.size, 0, none⟩ = some (.bool u.out) ∧ W.cell? ⟨w5.heap.size, 1, none⟩ = some (.string u.cls) ∧ W.cell? ⟨w5.heap.size, 2, none⟩ = some (.int .i64 u.lab) ∧ W.cell? ⟨w5.heap.size + 1, 0, none⟩ = some (.bool v.out) ∧ W.cell? ⟨w5.heap.size + 1, 1, none⟩ = some (.string v.cls) ∧ W.cell? ⟨w5.heap.size + 1, 2, none⟩ = some (.int .i64 v.lab) ∧ Kept X4.drew W)) (by kernel_rfl) ⟨HKB.out.cell HC6.out.1, HKB.out.cell HC6.out.2.1, HKB.out.cell HC6.out.2.2.1, HKB.out.cell HC6.out.2.2.2.1, HKB.out.cell HC6.out.2.2.2.2.1, HKB.out.cell HC6.out.2.2.2.2.2, HKB.out⟩ (fun hHeld0 => ?_)
      refine wpAnyH_take (i := 0) (v := ?_) rfl (by kernel_rfl) (by kernel_rfl) (by kernel_rfl) (fun _ _ _ h => h) (Or.inl ⟨by kernel_rfl, ?_⟩) (by assumption) ?_
      rotate_left
      · intro w hSw; (try dsimp only at hSw); go_simp; (try with_reducible rfl)
      (try simp only [Act.put, List.getElem_toArray, List.getElem_cons_zero, List.getElem_cons_succ, List.setIfInBounds_toArray, List.set_cons_zero, List.set_cons_succ])
      refine wpAnyH_take (i := 1) (v := ?_) rfl (by kernel_rfl) (by kernel_rfl) (by kernel_rfl) (fun _ _ _ h => h) (Or.inl ⟨by kernel_rfl, ?_⟩) (by assumption) ?_
      rotate_left
      · intro w hSw; (try dsimp only at hSw); go_simp; (try with_reducible rfl)
      (try simp only [Act.put, List.getElem_toArray, List.getElem_cons_zero, List.getElem_cons_succ, List.setIfInBounds_toArray, List.set_cons_zero, List.set_cons_succ])
      refine wpAnyH_take (i := 2) (v := ?_) rfl (by kernel_rfl) (by kernel_rfl) (by kernel_rfl) (fun _ _ _ h => h) (Or.inl ⟨by kernel_rfl, ?_⟩) (by assumption) ?_
      rotate_left
      · intro w hSw; (try dsimp only at hSw); go_simp; (try with_reducible rfl)
      (try simp only [Act.put, List.getElem_toArray, List.getElem_cons_zero, List.getElem_cons_succ, List.setIfInBounds_toArray, List.set_cons_zero, List.set_cons_succ])
      refine wpAnyH_take (i := 4) (v := ?_) rfl (by kernel_rfl) (by kernel_rfl) (by kernel_rfl) (fun _ _ _ h => h) (Or.inl ⟨by kernel_rfl, ?_⟩) (by assumption) ?_
      rotate_left
      · intro w hSw; (try dsimp only at hSw); go_simp; (try with_reducible rfl)
      (try simp only [Act.put, List.getElem_toArray, List.getElem_cons_zero, List.getElem_cons_succ, List.setIfInBounds_toArray, List.set_cons_zero, List.set_cons_succ])
      refine wpAnyH_take (i := 5) (v := ?_) rfl (by kernel_rfl) (by kernel_rfl) (by kernel_rfl) (fun _ _ _ h => h) (Or.inl ⟨by kernel_rfl, ?_⟩) (by assumption) ?_
      rotate_left
      · intro w hSw; (try dsimp only at hSw); go_simp; (try with_reducible rfl)
      (try simp only [Act.put, List.getElem_toArray, List.getElem_cons_zero, List.getElem_cons_succ, List.setIfInBounds_toArray, List.set_cons_zero, List.set_cons_succ])
      refine wpAnyH_take (i := 6) (v := ?_) rfl (by kernel_rfl) (by kernel_rfl) (by kernel_rfl) (fun _ _ _ h => h) (Or.inl ⟨by kernel_rfl, ?_⟩) (by assumption) ?_
      rotate_left
      · intro w hSw; (try dsimp only at hSw); go_simp; (try with_reducible rfl)
      (try simp only [Act.put, List.getElem_toArray, List.getElem_cons_zero, List.getElem_cons_succ, List.setIfInBounds_toArray, List.set_cons_zero, List.set_cons_succ])
      refine wpAnyH_ready (rs := [3]) (by kernel_rfl) (by simp) ?_
      refine AllReadyH.cons rfl (fun K hK => ?_) AllReadyH.nil
      have HC := Lib.hid (behind_c l u v _ _ HLX.out)
      rw [HBQ.out] at HC
      go_simp
      go_at_call 34
      refine HC.out.mono ?_
      rintro e wc1 ⟨rfl, kwc1⟩
      have HKB := Lib.hid (HKB.out.trans kwc1)
      have HKX := Lib.hid (HKX.out.trans kwc1)
      have HLX := Lib.hid (lys_kept HLX.out kwc1)
      have HNX := Lib.hid (lys_kept HNX.out kwc1)
      clear HC kwc1
      refine hK.out _ _ ⟨HKB.out.cell HC6.out.1, HKB.out.cell HC6.out.2.1, HKB.out.cell HC6.out.2.2.1, HKB.out.cell HC6.out.2.2.2.1, HKB.out.cell HC6.out.2.2.2.2.1, HKB.out.cell HC6.out.2.2.2.2.2, HKB.out⟩ (fun hHeld1 => ?_)
      clear hK K
      (try simp only [Act.put, List.getElem_toArray, List.getElem_cons_zero, List.getElem_cons_succ, List.setIfInBounds_toArray, List.set_cons_zero, List.set_cons_succ])
      refine wpAnyH_ready (rs := [7]) (by kernel_rfl) (by simp) ?_
      refine AllReadyH.cons rfl (fun K hK => ?_) AllReadyH.nil
      have HC := Lib.hid (behind_c n u v _ _ HNX.out)
      rw [HBE.out, HBQ.out] at HC
      go_simp
      go_at_call 34
      refine HC.out.mono ?_
      rintro e wc2 ⟨rfl, kwc2⟩
      have HKB := Lib.hid (HKB.out.trans kwc2)
      have HKX := Lib.hid (HKX.out.trans kwc2)
      have HLX := Lib.hid (lys_kept HLX.out kwc2)
      have HNX := Lib.hid (lys_kept HNX.out kwc2)
      clear HC kwc2
      refine hK.out _ _ ⟨HKB.out.cell HC6.out.1, HKB.out.cell HC6.out.2.1, HKB.out.cell HC6.out.2.2.1, HKB.out.cell HC6.out.2.2.2.1, HKB.out.cell HC6.out.2.2.2.2.1, HKB.out.cell HC6.out.2.2.2.2.2, HKB.out⟩ (fun hHeld2 => ?_)
      clear hK K
      (try simp only [Act.put, List.getElem_toArray, List.getElem_cons_zero, List.getElem_cons_succ, List.setIfInBounds_toArray, List.set_cons_zero, List.set_cons_succ])
      refine wpAnyH_take (i := 8) (v := ?_) rfl (by kernel_rfl) (by kernel_rfl) (by kernel_rfl) (fun _ _ _ h => h) (Or.inl ⟨by kernel_rfl, ?_⟩) (by assumption) ?_
      rotate_left
      · intro w hSw; (try dsimp only at hSw); go_simp; (try with_reducible rfl)
      (try simp only [Act.put, List.getElem_toArray, List.getElem_cons_zero, List.getElem_cons_succ, List.setIfInBounds_toArray, List.set_cons_zero, List.set_cons_succ])
      refine wpAnyH_take (i := 9) (v := ?_) rfl (by kernel_rfl) (by kernel_rfl) (by kernel_rfl) (fun _ _ _ h => h) (Or.inl ⟨by kernel_rfl, ?_⟩) (by assumption) ?_
      rotate_left
      · intro w hSw; (try dsimp only at hSw); go_simp; (try with_reducible rfl)
      (try simp only [Act.put, List.getElem_toArray, List.getElem_cons_zero, List.getElem_cons_succ, List.setIfInBounds_toArray, List.set_cons_zero, List.set_cons_succ])
      refine wpAnyH_take (i := 10) (v := ?_) rfl (by kernel_rfl) (by kernel_rfl) (by kernel_rfl) (fun _ _ _ h => h) (Or.inl ⟨by kernel_rfl, ?_⟩) (by assumption) ?_
      rotate_left
      · intro w hSw; (try dsimp only at hSw); go_simp; (try with_reducible rfl)
      (try simp only [Act.put, List.getElem_toArray, List.getElem_cons_zero, List.getElem_cons_succ, List.setIfInBounds_toArray, List.set_cons_zero, List.set_cons_succ])
      refine wpAnyH_take (i := 12) (v := ?_) rfl (by kernel_rfl) (by kernel_rfl) (by kernel_rfl) (fun _ _ _ h => h) (Or.inl ⟨by kernel_rfl, ?_⟩) (by assumption) ?_
      rotate_left
      · intro w hSw; (try dsimp only at hSw); go_simp; (try with_reducible rfl)
      (try simp only [Act.put, List.getElem_toArray, List.getElem_cons_zero, List.getElem_cons_succ, List.setIfInBounds_toArray, List.set_cons_zero, List.set_cons_succ])
      refine wpAnyH_take (i := 13) (v := ?_) rfl (by kernel_rfl) (by kernel_rfl) (by kernel_rfl) (fun _ _ _ h => h) (Or.inl ⟨by kernel_rfl, ?_⟩) (by assumption) ?_
      rotate_left
      · intro w hSw; (try dsimp only at hSw); go_simp; (try with_reducible rfl)
      (try simp only [Act.put, List.getElem_toArray, List.getElem_cons_zero, List.getElem_cons_succ, List.setIfInBounds_toArray, List.set_cons_zero, List.set_cons_succ])
      refine wpAnyH_take (i := 15) (v := ?_) rfl (by kernel_rfl) (by kernel_rfl) (by kernel_rfl) (fun _ _ _ h => h) (Or.inl ⟨by kernel_rfl, ?_⟩) (by assumption) ?_
      rotate_left
      · intro w hSw; (try dsimp only at hSw); go_simp; (try with_reducible rfl)
      (try simp only [Act.put, List.getElem_toArray, List.getElem_cons_zero, List.getElem_cons_succ, List.setIfInBounds_toArray, List.set_cons_zero, List.set_cons_succ])
      refine wpAnyH_take (i := 17) (v := ?_) rfl (by kernel_rfl) (by kernel_rfl) (by kernel_rfl) (fun _ _ _ h => h) (Or.inl ⟨by kernel_rfl, ?_⟩) (by assumption) ?_
      rotate_left
      · intro w hSw; (try dsimp only at hSw); go_simp; (try with_reducible rfl)
      (try simp only [Act.put, List.getElem_toArray, List.getElem_cons_zero, List.getElem_cons_succ, List.setIfInBounds_toArray, List.set_cons_zero, List.set_cons_succ])
      refine wpAnyH_take (i := 18) (v := ?_) rfl (by kernel_rfl) (by kernel_rfl) (by kernel_rfl) (fun _ _ _ h => h) (Or.inl ⟨by kernel_rfl, ?_⟩) (by assumption) ?_
      rotate_left
      · intro w hSw; (try dsimp only at hSw); go_simp; (try with_reducible rfl)
      (try simp only [Act.put, List.getElem_toArray, List.getElem_cons_zero, List.getElem_cons_succ, List.setIfInBounds_toArray, List.set_cons_zero, List.set_cons_succ])
      refine wpAnyH_ready (rs := [11]) (by kernel_rfl) (by simp) ?_
      refine AllReadyH.cons rfl (fun K hK => ?_) AllReadyH.nil
      have HC := Lib.hid (turned_c l _ _ HLX.out (by omega))
      go_simp
      go_at_call 35
      refine HC.out.mono ?_
      rintro e wc3 ⟨⟨awc3, cwc3, rfl, owc3⟩, kwc3⟩
      have HKB := Lib.hid (HKB.out.trans kwc3)
      have HKX := Lib.hid (HKX.out.trans kwc3)
      have HLX := Lib.hid (lys_kept HLX.out kwc3)
      have HNX := Lib.hid (lys_kept HNX.out kwc3)
      have HRX := Lib.hid (owns_lys owc3 HFR.out)
      rw [List.length_reverse] at HRX ⊢
      clear owc3
      clear HC kwc3
      refine hK.out _ _ ⟨HKB.out.cell HC6.out.1, HKB.out.cell HC6.out.2.1, HKB.out.cell HC6.out.2.2.1, HKB.out.cell HC6.out.2.2.2.1, HKB.out.cell HC6.out.2.2.2.2.1, HKB.out.cell HC6.out.2.2.2.2.2, HKB.out⟩ (fun hHeld3 => ?_)
      clear hK K
      (try simp only [Act.put, List.getElem_toArray, List.getElem_cons_zero, List.getElem_cons_succ, List.setIfInBounds_toArray, List.set_cons_zero, List.set_cons_succ])
      refine wpAnyH_ready (rs := [14]) (by kernel_rfl) (by simp) ?_
      refine AllReadyH.cons rfl (fun K hK => ?_) AllReadyH.nil
      have HC := Lib.hid (behind_c l.reverse u v _ _ HRX.out)
      rw [HBP.out] at HC
      go_simp
      go_at_call 34
      refine HC.out.mono ?_
      rintro e wc4 ⟨rfl, kwc4⟩
      have HKB := Lib.hid (HKB.out.trans kwc4)
      have HKX := Lib.hid (HKX.out.trans kwc4)
      have HLX := Lib.hid (lys_kept HLX.out kwc4)
      have HNX := Lib.hid (lys_kept HNX.out kwc4)
      clear HC kwc4
      refine hK.out _ _ ⟨HKB.out.cell HC6.out.1, HKB.out.cell HC6.out.2.1, HKB.out.cell HC6.out.2.2.1, HKB.out.cell HC6.out.2.2.2.1, HKB.out.cell HC6.out.2.2.2.2.1, HKB.out.cell HC6.out.2.2.2.2.2, HKB.out⟩ (fun hHeld4 => ?_)
      clear hK K
      (try simp only [Act.put, List.getElem_toArray, List.getElem_cons_zero, List.getElem_cons_succ, List.setIfInBounds_toArray, List.set_cons_zero, List.set_cons_succ])
      refine wpAnyH_ready (rs := [16]) (by kernel_rfl) (by simp) ?_
      refine AllReadyH.cons rfl (fun K hK => ?_) AllReadyH.nil
      have HC := Lib.hid (turned_c n _ _ HNX.out (by omega))
      go_simp
      go_at_call 35
      refine HC.out.mono ?_
      rintro e wc5 ⟨⟨awc5, cwc5, rfl, owc5⟩, kwc5⟩
      have HKB := Lib.hid (HKB.out.trans kwc5)
      have HKX := Lib.hid (HKX.out.trans kwc5)
      have HLX := Lib.hid (lys_kept HLX.out kwc5)
      have HNX := Lib.hid (lys_kept HNX.out kwc5)
      have HRX := Lib.hid (owns_lys owc5 HNR.out)
      rw [List.length_reverse] at HRX ⊢
      clear owc5
      clear HC kwc5
      refine hK.out _ _ ⟨HKB.out.cell HC6.out.1, HKB.out.cell HC6.out.2.1, HKB.out.cell HC6.out.2.2.1, HKB.out.cell HC6.out.2.2.2.1, HKB.out.cell HC6.out.2.2.2.2.1, HKB.out.cell HC6.out.2.2.2.2.2, HKB.out⟩ (fun hHeld5 => ?_)
      clear hK K
      (try simp only [Act.put, List.getElem_toArray, List.getElem_cons_zero, List.getElem_cons_succ, List.setIfInBounds_toArray, List.set_cons_zero, List.set_cons_succ])
      refine wpAnyH_ready (rs := [19]) (by kernel_rfl) (by simp) ?_
      refine AllReadyH.cons rfl (fun K hK => ?_) AllReadyH.nil
      have HC := Lib.hid (behind_c n.reverse u v _ _ HRX.out)
      rw [show behV (ky u) (ky v) n.reverse = bp by rw [HRN.out, HBR.out, HBP.out]] at HC
      go_simp
      go_at_call 34
      refine HC.out.mono ?_
      rintro e wc6 ⟨rfl, kwc6⟩
      have HKB := Lib.hid (HKB.out.trans kwc6)
      have HKX := Lib.hid (HKX.out.trans kwc6)
      have HLX := Lib.hid (lys_kept HLX.out kwc6)
      have HNX := Lib.hid (lys_kept HNX.out kwc6)
      clear HC kwc6
      refine hK.out _ _ ⟨HKB.out.cell HC6.out.1, HKB.out.cell HC6.out.2.1, HKB.out.cell HC6.out.2.2.1, HKB.out.cell HC6.out.2.2.2.1, HKB.out.cell HC6.out.2.2.2.2.1, HKB.out.cell HC6.out.2.2.2.2.2, HKB.out⟩ (fun hHeld6 => ?_)
      clear hK K
      (try simp only [Act.put, List.getElem_toArray, List.getElem_cons_zero, List.getElem_cons_succ, List.setIfInBounds_toArray, List.set_cons_zero, List.set_cons_succ])
      refine wpAnyH_take (i := 20) (v := ?_) rfl (by kernel_rfl) (by kernel_rfl) (by kernel_rfl) (fun _ _ _ h => h) (Or.inl ⟨by kernel_rfl, ?_⟩) (by assumption) ?_
      rotate_left
      · intro w hSw; (try dsimp only at hSw); go_simp; (try with_reducible rfl)
      (try simp only [Act.put, List.getElem_toArray, List.getElem_cons_zero, List.getElem_cons_succ, List.setIfInBounds_toArray, List.set_cons_zero, List.set_cons_succ])
      refine wpAnyH_take (i := 21) (v := ?_) rfl (by kernel_rfl) (by kernel_rfl) (by kernel_rfl) (fun _ _ _ h => h) (Or.inl ⟨by kernel_rfl, ?_⟩) (by assumption) ?_
      rotate_left
      · intro w hSw; (try dsimp only at hSw); go_simp; (try with_reducible rfl)
      (try simp only [Act.put, List.getElem_toArray, List.getElem_cons_zero, List.getElem_cons_succ, List.setIfInBounds_toArray, List.set_cons_zero, List.set_cons_succ])
      refine wpAnyH_done (by kernel_rfl) ?_ _
      have HC := Lib.hid (turned_c l _ _ HLX.out (by omega))
      go_wp2_with fail
      refine HC.out.mono ?_
      rintro e x1 ⟨⟨ax1, cx1, rfl, ox1⟩, kx1⟩
      have HR1 := Lib.hid (owns_lys ox1 HFR.out)
      rw [List.length_reverse] at HR1 ⊢
      have HNX := Lib.hid (lys_kept HNX.out kx1)
      have HKX := Lib.hid (HKX.out.trans kx1)
      have HC := Lib.hid (norm_c l.reverse _ x1 HR1.out (by rw [List.length_reverse]; omega))
      rw [← HRN.out] at HC
      clear ox1 kx1
      go_wp2_with fail
      refine HC.out.mono ?_
      rintro e x2 ⟨ax2, cx2, rfl, ox2, kx2⟩
      have HR2 := Lib.hid (owns_lys ox2 HNR.out)
      rw [List.length_reverse] at HR2 ⊢
      have HNX := Lib.hid (lys_kept HNX.out kx2)
      have HKX := Lib.hid (HKX.out.trans kx2)
      have HC := Lib.hid (turned_c n _ x2 HNX.out (by omega))
      clear ox2 kx2
      go_wp2_with fail
      refine HC.out.mono ?_
      rintro e x3 ⟨⟨ax3, cx3, rfl, ox3⟩, kx3⟩
      have HR3 := Lib.hid (owns_lys ox3 HNR.out)
      rw [List.length_reverse] at HR3 ⊢
      have HKX := Lib.hid (HKX.out.trans kx3)
      have HC := Lib.hid (sameL_c n.reverse n.reverse _ _ x3 (lys_kept HR2.out kx3) HR3.out)
      rw [show decide (n.reverse = n.reverse) = true from decide_eq_true rfl] at HC
      clear ox3 kx3
      go_wp2_with fail
      refine HC.out.mono ?_
      rintro e x4 ⟨rfl, kx4⟩
      have HKX := Lib.hid (HKX.out.trans kx4)
      clear kx4 HC
      go_wp2_with fail
      go_ret
      exact ⟨rfl, HKX.out⟩
    refine AllReadyH.cons rfl (fun K hK => ?_) AllReadyH.nil
    obtain ⟨X5, hX5, fX5, kX5, sX5⟩ := prepZ w5.drew
    rw [World.size_drew] at fX5 sX5
    have HKB := Lib.hid (HKB.out.trans kX5)
    go_simp
    (try rw [show w5.drew.alloc (.cells #[.bool false, .string ⟨#[]⟩, .int .i64 0] 24) = X5 from hX5])
    clear hX5
    refine hK.out _ _ ⟨HKB.out.cell HU.out.1, HKB.out.cell HU.out.2.1, HKB.out.cell HU.out.2.2.1, HKB.out.cell HU.out.2.2.2.1, HKB.out.cell HU.out.2.2.2.2.1, HKB.out.cell HU.out.2.2.2.2.2, HKB.out⟩ (fun hHeld25 => ?_)
    clear hK K
    (try simp only [Act.put, List.getElem_toArray, List.getElem_cons_zero, List.getElem_cons_succ, List.setIfInBounds_toArray, List.set_cons_zero, List.set_cons_succ])
    refine wpAnyH_ready (rs := [6]) (by kernel_rfl) (by simp) ?_
    refine AllReadyH.cons rfl (fun K hK => ?_) AllReadyH.nil
    obtain ⟨X6, hX6, fX6, kX6, sX6⟩ := prepZ X5
    rw [sX5] at fX6 sX6
    have HKB := Lib.hid (HKB.out.trans kX6)
    go_simp
    (try rw [show X5.alloc (.cells #[.bool false, .string ⟨#[]⟩, .int .i64 0] 24) = X6 from hX6])
    clear hX6
    refine hK.out _ _ ⟨HKB.out.cell HU.out.1, HKB.out.cell HU.out.2.1, HKB.out.cell HU.out.2.2.1, HKB.out.cell HU.out.2.2.2.1, HKB.out.cell HU.out.2.2.2.2.1, HKB.out.cell HU.out.2.2.2.2.2, HKB.out⟩ (fun hHeld26 => ?_)
    clear hK K
    (try simp only [Act.put, List.getElem_toArray, List.getElem_cons_zero, List.getElem_cons_succ, List.setIfInBounds_toArray, List.set_cons_zero, List.set_cons_succ])
    refine wpAnyH_ready (rs := [8]) (by kernel_rfl) (by simp) ?_
    refine AllReadyH.cons rfl (fun K hK => ?_) AllReadyH.nil
    obtain ⟨X7, hX7, fX7, kX7, sX7, oX7⟩ := prepS u X6 (fX6)
    have HKB := Lib.hid (HKB.out.onlyT oX7 (by show w5.heap.size ≤ _; omega))
    have cX70 := (fX6).cell 0
    have cX71 := (fX6).cell 1
    have cX72 := (fX6).cell 2
    have zX70 := (fX6).frozen 0
    have zX71 := (fX6).frozen 1
    have zX72 := (fX6).frozen 2
    simp only [List.getElem?_toArray, List.getElem?_cons_zero, List.getElem?_cons_succ] at cX70 cX71 cX72
    go_simp
    (try rw [hX7])
    clear hX7 cX70 cX71 cX72 zX70 zX71 zX72
    refine hK.out _ _ ⟨HKB.out.cell HU.out.1, HKB.out.cell HU.out.2.1, HKB.out.cell HU.out.2.2.1, HKB.out.cell HU.out.2.2.2.1, HKB.out.cell HU.out.2.2.2.2.1, HKB.out.cell HU.out.2.2.2.2.2, HKB.out⟩ (fun hHeld27 => ?_)
    clear hK K
    (try simp only [Act.put, List.getElem_toArray, List.getElem_cons_zero, List.getElem_cons_succ, List.setIfInBounds_toArray, List.set_cons_zero, List.set_cons_succ])
    refine wpAnyH_ready (rs := [9]) (by kernel_rfl) (by simp) ?_
    refine AllReadyH.cons rfl (fun K hK => ?_) AllReadyH.nil
    obtain ⟨X8, hX8, fX8, kX8, sX8, oX8⟩ := prepS v X7 (((fX5).kept kX6).only oX7 (by omega))
    have HKB := Lib.hid (HKB.out.onlyT oX8 (by show w5.heap.size ≤ _; omega))
    have cX80 := (((fX5).kept kX6).only oX7 (by omega)).cell 0
    have cX81 := (((fX5).kept kX6).only oX7 (by omega)).cell 1
    have cX82 := (((fX5).kept kX6).only oX7 (by omega)).cell 2
    have zX80 := (((fX5).kept kX6).only oX7 (by omega)).frozen 0
    have zX81 := (((fX5).kept kX6).only oX7 (by omega)).frozen 1
    have zX82 := (((fX5).kept kX6).only oX7 (by omega)).frozen 2
    simp only [List.getElem?_toArray, List.getElem?_cons_zero, List.getElem?_cons_succ] at cX80 cX81 cX82
    go_simp
    (try rw [hX8])
    clear hX8 cX80 cX81 cX82 zX80 zX81 zX82
    refine hK.out _ _ ⟨HKB.out.cell HU.out.1, HKB.out.cell HU.out.2.1, HKB.out.cell HU.out.2.2.1, HKB.out.cell HU.out.2.2.2.1, HKB.out.cell HU.out.2.2.2.2.1, HKB.out.cell HU.out.2.2.2.2.2, HKB.out⟩ (fun hHeld28 => ?_)
    clear hK K
    (try simp only [Act.put, List.getElem_toArray, List.getElem_cons_zero, List.getElem_cons_succ, List.setIfInBounds_toArray, List.set_cons_zero, List.set_cons_succ])
    refine wpAnyH_done (by kernel_rfl) ?_ _
    have HK6 := Lib.hid (HK5.out.drew.trans HKB.out)
    have HLY6 := Lib.hid (lys_kept (lys_kept HLY5.out (Kept.refl _).drew) HKB.out)
    have HNY6 := Lib.hid (lys_kept (lys_kept HNY5.out (Kept.refl _).drew) HKB.out)
    go_wp2_with fail
    have HKB := Lib.hid (Kept.refl X8).drew
    have BU := Lib.hid ((fX7).only oX8 (by omega))
    have BV := Lib.hid (fX8)
    have HC6 := Lib.hid (show X8.drew.cell? ⟨w5.heap.size + 1, 0, none⟩ = some (.bool u.out) ∧ X8.drew.cell? ⟨w5.heap.size + 1, 1, none⟩ = some (.string u.cls) ∧ X8.drew.cell? ⟨w5.heap.size + 1, 2, none⟩ = some (.int .i64 u.lab) ∧ X8.drew.cell? ⟨w5.heap.size, 0, none⟩ = some (.bool v.out) ∧ X8.drew.cell? ⟨w5.heap.size, 1, none⟩ = some (.string v.cls) ∧ X8.drew.cell? ⟨w5.heap.size, 2, none⟩ = some (.int .i64 v.lab) from ⟨by simpa using BU.out.drew.cell 0, by simpa using BU.out.drew.cell 1, by simpa using BU.out.drew.cell 2, by simpa using BV.out.drew.cell 0, by simpa using BV.out.drew.cell 1, by simpa using BV.out.drew.cell 2⟩)
    have HKB := Lib.hid (Kept.refl X8.drew)
    have HKX := Lib.hid (HK6.out.drew)
    have HLX := Lib.hid (lys_kept HLY6.out (Kept.refl _).drew)
    have HNX := Lib.hid (lys_kept HNY6.out (Kept.refl _).drew)
    refine wp_region_held_drew (S := (fun W => W.cell? ⟨w5.heap.size + 1, 0, none⟩ = some (.bool u.out) ∧ W.cell? ⟨w5.heap.size + 1, 1, none⟩ = some (.string u.cls) ∧ W.cell? ⟨w5.heap.size + 1, 2, none⟩ = some (.int .i64 u.lab) ∧ W.cell? ⟨w5.heap.size, 0, none⟩ = some (.bool v.out) ∧ W.cell? ⟨w5.heap.size, 1, none⟩ = some (.string v.cls) ∧ W.cell? ⟨w5.heap.size, 2, none⟩ = some (.int .i64 v.lab) ∧ Kept X8.drew W)) (by kernel_rfl) ⟨HKB.out.cell HC6.out.1, HKB.out.cell HC6.out.2.1, HKB.out.cell HC6.out.2.2.1, HKB.out.cell HC6.out.2.2.2.1, HKB.out.cell HC6.out.2.2.2.2.1, HKB.out.cell HC6.out.2.2.2.2.2, HKB.out⟩ (fun hHeld0 => ?_)
    refine wpAnyH_take (i := 0) (v := ?_) rfl (by kernel_rfl) (by kernel_rfl) (by kernel_rfl) (fun _ _ _ h => h) (Or.inl ⟨by kernel_rfl, ?_⟩) (by assumption) ?_
    rotate_left
    · intro w hSw; (try dsimp only at hSw); go_simp; (try with_reducible rfl)
    (try simp only [Act.put, List.getElem_toArray, List.getElem_cons_zero, List.getElem_cons_succ, List.setIfInBounds_toArray, List.set_cons_zero, List.set_cons_succ])
    refine wpAnyH_take (i := 1) (v := ?_) rfl (by kernel_rfl) (by kernel_rfl) (by kernel_rfl) (fun _ _ _ h => h) (Or.inl ⟨by kernel_rfl, ?_⟩) (by assumption) ?_
    rotate_left
    · intro w hSw; (try dsimp only at hSw); go_simp; (try with_reducible rfl)
    (try simp only [Act.put, List.getElem_toArray, List.getElem_cons_zero, List.getElem_cons_succ, List.setIfInBounds_toArray, List.set_cons_zero, List.set_cons_succ])
    refine wpAnyH_take (i := 2) (v := ?_) rfl (by kernel_rfl) (by kernel_rfl) (by kernel_rfl) (fun _ _ _ h => h) (Or.inl ⟨by kernel_rfl, ?_⟩) (by assumption) ?_
    rotate_left
    · intro w hSw; (try dsimp only at hSw); go_simp; (try with_reducible rfl)
    (try simp only [Act.put, List.getElem_toArray, List.getElem_cons_zero, List.getElem_cons_succ, List.setIfInBounds_toArray, List.set_cons_zero, List.set_cons_succ])
    refine wpAnyH_take (i := 4) (v := ?_) rfl (by kernel_rfl) (by kernel_rfl) (by kernel_rfl) (fun _ _ _ h => h) (Or.inl ⟨by kernel_rfl, ?_⟩) (by assumption) ?_
    rotate_left
    · intro w hSw; (try dsimp only at hSw); go_simp; (try with_reducible rfl)
    (try simp only [Act.put, List.getElem_toArray, List.getElem_cons_zero, List.getElem_cons_succ, List.setIfInBounds_toArray, List.set_cons_zero, List.set_cons_succ])
    refine wpAnyH_take (i := 5) (v := ?_) rfl (by kernel_rfl) (by kernel_rfl) (by kernel_rfl) (fun _ _ _ h => h) (Or.inl ⟨by kernel_rfl, ?_⟩) (by assumption) ?_
    rotate_left
    · intro w hSw; (try dsimp only at hSw); go_simp; (try with_reducible rfl)
    (try simp only [Act.put, List.getElem_toArray, List.getElem_cons_zero, List.getElem_cons_succ, List.setIfInBounds_toArray, List.set_cons_zero, List.set_cons_succ])
    refine wpAnyH_take (i := 6) (v := ?_) rfl (by kernel_rfl) (by kernel_rfl) (by kernel_rfl) (fun _ _ _ h => h) (Or.inl ⟨by kernel_rfl, ?_⟩) (by assumption) ?_
    rotate_left
    · intro w hSw; (try dsimp only at hSw); go_simp; (try with_reducible rfl)
    (try simp only [Act.put, List.getElem_toArray, List.getElem_cons_zero, List.getElem_cons_succ, List.setIfInBounds_toArray, List.set_cons_zero, List.set_cons_succ])
    refine wpAnyH_ready (rs := [3]) (by kernel_rfl) (by simp) ?_
    refine AllReadyH.cons rfl (fun K hK => ?_) AllReadyH.nil
    have HC := Lib.hid (behind_c l u v _ _ HLX.out)
    rw [HBQ.out] at HC
    go_simp
    go_at_call 34
    refine HC.out.mono ?_
    rintro e wc1 ⟨rfl, kwc1⟩
    have HKB := Lib.hid (HKB.out.trans kwc1)
    have HKX := Lib.hid (HKX.out.trans kwc1)
    have HLX := Lib.hid (lys_kept HLX.out kwc1)
    have HNX := Lib.hid (lys_kept HNX.out kwc1)
    clear HC kwc1
    refine hK.out _ _ ⟨HKB.out.cell HC6.out.1, HKB.out.cell HC6.out.2.1, HKB.out.cell HC6.out.2.2.1, HKB.out.cell HC6.out.2.2.2.1, HKB.out.cell HC6.out.2.2.2.2.1, HKB.out.cell HC6.out.2.2.2.2.2, HKB.out⟩ (fun hHeld1 => ?_)
    clear hK K
    (try simp only [Act.put, List.getElem_toArray, List.getElem_cons_zero, List.getElem_cons_succ, List.setIfInBounds_toArray, List.set_cons_zero, List.set_cons_succ])
    refine wpAnyH_ready (rs := [7]) (by kernel_rfl) (by simp) ?_
    refine AllReadyH.cons rfl (fun K hK => ?_) AllReadyH.nil
    have HC := Lib.hid (behind_c n u v _ _ HNX.out)
    rw [HBE.out, HBQ.out] at HC
    go_simp
    go_at_call 34
    refine HC.out.mono ?_
    rintro e wc2 ⟨rfl, kwc2⟩
    have HKB := Lib.hid (HKB.out.trans kwc2)
    have HKX := Lib.hid (HKX.out.trans kwc2)
    have HLX := Lib.hid (lys_kept HLX.out kwc2)
    have HNX := Lib.hid (lys_kept HNX.out kwc2)
    clear HC kwc2
    refine hK.out _ _ ⟨HKB.out.cell HC6.out.1, HKB.out.cell HC6.out.2.1, HKB.out.cell HC6.out.2.2.1, HKB.out.cell HC6.out.2.2.2.1, HKB.out.cell HC6.out.2.2.2.2.1, HKB.out.cell HC6.out.2.2.2.2.2, HKB.out⟩ (fun hHeld2 => ?_)
    clear hK K
    (try simp only [Act.put, List.getElem_toArray, List.getElem_cons_zero, List.getElem_cons_succ, List.setIfInBounds_toArray, List.set_cons_zero, List.set_cons_succ])
    refine wpAnyH_take (i := 8) (v := ?_) rfl (by kernel_rfl) (by kernel_rfl) (by kernel_rfl) (fun _ _ _ h => h) (Or.inl ⟨by kernel_rfl, ?_⟩) (by assumption) ?_
    rotate_left
    · intro w hSw; (try dsimp only at hSw); go_simp; (try with_reducible rfl)
    (try simp only [Act.put, List.getElem_toArray, List.getElem_cons_zero, List.getElem_cons_succ, List.setIfInBounds_toArray, List.set_cons_zero, List.set_cons_succ])
    refine wpAnyH_take (i := 9) (v := ?_) rfl (by kernel_rfl) (by kernel_rfl) (by kernel_rfl) (fun _ _ _ h => h) (Or.inl ⟨by kernel_rfl, ?_⟩) (by assumption) ?_
    rotate_left
    · intro w hSw; (try dsimp only at hSw); go_simp; (try with_reducible rfl)
    (try simp only [Act.put, List.getElem_toArray, List.getElem_cons_zero, List.getElem_cons_succ, List.setIfInBounds_toArray, List.set_cons_zero, List.set_cons_succ])
    refine wpAnyH_take (i := 10) (v := ?_) rfl (by kernel_rfl) (by kernel_rfl) (by kernel_rfl) (fun _ _ _ h => h) (Or.inl ⟨by kernel_rfl, ?_⟩) (by assumption) ?_
    rotate_left
    · intro w hSw; (try dsimp only at hSw); go_simp; (try with_reducible rfl)
    (try simp only [Act.put, List.getElem_toArray, List.getElem_cons_zero, List.getElem_cons_succ, List.setIfInBounds_toArray, List.set_cons_zero, List.set_cons_succ])
    refine wpAnyH_take (i := 12) (v := ?_) rfl (by kernel_rfl) (by kernel_rfl) (by kernel_rfl) (fun _ _ _ h => h) (Or.inl ⟨by kernel_rfl, ?_⟩) (by assumption) ?_
    rotate_left
    · intro w hSw; (try dsimp only at hSw); go_simp; (try with_reducible rfl)
    (try simp only [Act.put, List.getElem_toArray, List.getElem_cons_zero, List.getElem_cons_succ, List.setIfInBounds_toArray, List.set_cons_zero, List.set_cons_succ])
    refine wpAnyH_take (i := 13) (v := ?_) rfl (by kernel_rfl) (by kernel_rfl) (by kernel_rfl) (fun _ _ _ h => h) (Or.inl ⟨by kernel_rfl, ?_⟩) (by assumption) ?_
    rotate_left
    · intro w hSw; (try dsimp only at hSw); go_simp; (try with_reducible rfl)
    (try simp only [Act.put, List.getElem_toArray, List.getElem_cons_zero, List.getElem_cons_succ, List.setIfInBounds_toArray, List.set_cons_zero, List.set_cons_succ])
    refine wpAnyH_take (i := 15) (v := ?_) rfl (by kernel_rfl) (by kernel_rfl) (by kernel_rfl) (fun _ _ _ h => h) (Or.inl ⟨by kernel_rfl, ?_⟩) (by assumption) ?_
    rotate_left
    · intro w hSw; (try dsimp only at hSw); go_simp; (try with_reducible rfl)
    (try simp only [Act.put, List.getElem_toArray, List.getElem_cons_zero, List.getElem_cons_succ, List.setIfInBounds_toArray, List.set_cons_zero, List.set_cons_succ])
    refine wpAnyH_take (i := 17) (v := ?_) rfl (by kernel_rfl) (by kernel_rfl) (by kernel_rfl) (fun _ _ _ h => h) (Or.inl ⟨by kernel_rfl, ?_⟩) (by assumption) ?_
    rotate_left
    · intro w hSw; (try dsimp only at hSw); go_simp; (try with_reducible rfl)
    (try simp only [Act.put, List.getElem_toArray, List.getElem_cons_zero, List.getElem_cons_succ, List.setIfInBounds_toArray, List.set_cons_zero, List.set_cons_succ])
    refine wpAnyH_take (i := 18) (v := ?_) rfl (by kernel_rfl) (by kernel_rfl) (by kernel_rfl) (fun _ _ _ h => h) (Or.inl ⟨by kernel_rfl, ?_⟩) (by assumption) ?_
    rotate_left
    · intro w hSw; (try dsimp only at hSw); go_simp; (try with_reducible rfl)
    (try simp only [Act.put, List.getElem_toArray, List.getElem_cons_zero, List.getElem_cons_succ, List.setIfInBounds_toArray, List.set_cons_zero, List.set_cons_succ])
    refine wpAnyH_ready (rs := [11]) (by kernel_rfl) (by simp) ?_
    refine AllReadyH.cons rfl (fun K hK => ?_) AllReadyH.nil
    have HC := Lib.hid (turned_c l _ _ HLX.out (by omega))
    go_simp
    go_at_call 35
    refine HC.out.mono ?_
    rintro e wc3 ⟨⟨awc3, cwc3, rfl, owc3⟩, kwc3⟩
    have HKB := Lib.hid (HKB.out.trans kwc3)
    have HKX := Lib.hid (HKX.out.trans kwc3)
    have HLX := Lib.hid (lys_kept HLX.out kwc3)
    have HNX := Lib.hid (lys_kept HNX.out kwc3)
    have HRX := Lib.hid (owns_lys owc3 HFR.out)
    rw [List.length_reverse] at HRX ⊢
    clear owc3
    clear HC kwc3
    refine hK.out _ _ ⟨HKB.out.cell HC6.out.1, HKB.out.cell HC6.out.2.1, HKB.out.cell HC6.out.2.2.1, HKB.out.cell HC6.out.2.2.2.1, HKB.out.cell HC6.out.2.2.2.2.1, HKB.out.cell HC6.out.2.2.2.2.2, HKB.out⟩ (fun hHeld3 => ?_)
    clear hK K
    (try simp only [Act.put, List.getElem_toArray, List.getElem_cons_zero, List.getElem_cons_succ, List.setIfInBounds_toArray, List.set_cons_zero, List.set_cons_succ])
    refine wpAnyH_ready (rs := [14]) (by kernel_rfl) (by simp) ?_
    refine AllReadyH.cons rfl (fun K hK => ?_) AllReadyH.nil
    have HC := Lib.hid (behind_c l.reverse u v _ _ HRX.out)
    rw [HBP.out] at HC
    go_simp
    go_at_call 34
    refine HC.out.mono ?_
    rintro e wc4 ⟨rfl, kwc4⟩
    have HKB := Lib.hid (HKB.out.trans kwc4)
    have HKX := Lib.hid (HKX.out.trans kwc4)
    have HLX := Lib.hid (lys_kept HLX.out kwc4)
    have HNX := Lib.hid (lys_kept HNX.out kwc4)
    clear HC kwc4
    refine hK.out _ _ ⟨HKB.out.cell HC6.out.1, HKB.out.cell HC6.out.2.1, HKB.out.cell HC6.out.2.2.1, HKB.out.cell HC6.out.2.2.2.1, HKB.out.cell HC6.out.2.2.2.2.1, HKB.out.cell HC6.out.2.2.2.2.2, HKB.out⟩ (fun hHeld4 => ?_)
    clear hK K
    (try simp only [Act.put, List.getElem_toArray, List.getElem_cons_zero, List.getElem_cons_succ, List.setIfInBounds_toArray, List.set_cons_zero, List.set_cons_succ])
    refine wpAnyH_ready (rs := [16]) (by kernel_rfl) (by simp) ?_
    refine AllReadyH.cons rfl (fun K hK => ?_) AllReadyH.nil
    have HC := Lib.hid (turned_c n _ _ HNX.out (by omega))
    go_simp
    go_at_call 35
    refine HC.out.mono ?_
    rintro e wc5 ⟨⟨awc5, cwc5, rfl, owc5⟩, kwc5⟩
    have HKB := Lib.hid (HKB.out.trans kwc5)
    have HKX := Lib.hid (HKX.out.trans kwc5)
    have HLX := Lib.hid (lys_kept HLX.out kwc5)
    have HNX := Lib.hid (lys_kept HNX.out kwc5)
    have HRX := Lib.hid (owns_lys owc5 HNR.out)
    rw [List.length_reverse] at HRX ⊢
    clear owc5
    clear HC kwc5
    refine hK.out _ _ ⟨HKB.out.cell HC6.out.1, HKB.out.cell HC6.out.2.1, HKB.out.cell HC6.out.2.2.1, HKB.out.cell HC6.out.2.2.2.1, HKB.out.cell HC6.out.2.2.2.2.1, HKB.out.cell HC6.out.2.2.2.2.2, HKB.out⟩ (fun hHeld5 => ?_)
    clear hK K
    (try simp only [Act.put, List.getElem_toArray, List.getElem_cons_zero, List.getElem_cons_succ, List.setIfInBounds_toArray, List.set_cons_zero, List.set_cons_succ])
    refine wpAnyH_ready (rs := [19]) (by kernel_rfl) (by simp) ?_
    refine AllReadyH.cons rfl (fun K hK => ?_) AllReadyH.nil
    have HC := Lib.hid (behind_c n.reverse u v _ _ HRX.out)
    rw [show behV (ky u) (ky v) n.reverse = bp by rw [HRN.out, HBR.out, HBP.out]] at HC
    go_simp
    go_at_call 34
    refine HC.out.mono ?_
    rintro e wc6 ⟨rfl, kwc6⟩
    have HKB := Lib.hid (HKB.out.trans kwc6)
    have HKX := Lib.hid (HKX.out.trans kwc6)
    have HLX := Lib.hid (lys_kept HLX.out kwc6)
    have HNX := Lib.hid (lys_kept HNX.out kwc6)
    clear HC kwc6
    refine hK.out _ _ ⟨HKB.out.cell HC6.out.1, HKB.out.cell HC6.out.2.1, HKB.out.cell HC6.out.2.2.1, HKB.out.cell HC6.out.2.2.2.1, HKB.out.cell HC6.out.2.2.2.2.1, HKB.out.cell HC6.out.2.2.2.2.2, HKB.out⟩ (fun hHeld6 => ?_)
    clear hK K
    (try simp only [Act.put, List.getElem_toArray, List.getElem_cons_zero, List.getElem_cons_succ, List.setIfInBounds_toArray, List.set_cons_zero, List.set_cons_succ])
    refine wpAnyH_take (i := 20) (v := ?_) rfl (by kernel_rfl) (by kernel_rfl) (by kernel_rfl) (fun _ _ _ h => h) (Or.inl ⟨by kernel_rfl, ?_⟩) (by assumption) ?_
    rotate_left
    · intro w hSw; (try dsimp only at hSw); go_simp; (try with_reducible rfl)
    (try simp only [Act.put, List.getElem_toArray, List.getElem_cons_zero, List.getElem_cons_succ, List.setIfInBounds_toArray, List.set_cons_zero, List.set_cons_succ])
    refine wpAnyH_take (i := 21) (v := ?_) rfl (by kernel_rfl) (by kernel_rfl) (by kernel_rfl) (fun _ _ _ h => h) (Or.inl ⟨by kernel_rfl, ?_⟩) (by assumption) ?_
    rotate_left
    · intro w hSw; (try dsimp only at hSw); go_simp; (try with_reducible rfl)
    (try simp only [Act.put, List.getElem_toArray, List.getElem_cons_zero, List.getElem_cons_succ, List.setIfInBounds_toArray, List.set_cons_zero, List.set_cons_succ])
    refine wpAnyH_done (by kernel_rfl) ?_ _
    have HC := Lib.hid (turned_c l _ _ HLX.out (by omega))
    go_wp2_with fail
    refine HC.out.mono ?_
    rintro e x1 ⟨⟨ax1, cx1, rfl, ox1⟩, kx1⟩
    have HR1 := Lib.hid (owns_lys ox1 HFR.out)
    rw [List.length_reverse] at HR1 ⊢
    have HNX := Lib.hid (lys_kept HNX.out kx1)
    have HKX := Lib.hid (HKX.out.trans kx1)
    have HC := Lib.hid (norm_c l.reverse _ x1 HR1.out (by rw [List.length_reverse]; omega))
    rw [← HRN.out] at HC
    clear ox1 kx1
    go_wp2_with fail
    refine HC.out.mono ?_
    rintro e x2 ⟨ax2, cx2, rfl, ox2, kx2⟩
    have HR2 := Lib.hid (owns_lys ox2 HNR.out)
    rw [List.length_reverse] at HR2 ⊢
    have HNX := Lib.hid (lys_kept HNX.out kx2)
    have HKX := Lib.hid (HKX.out.trans kx2)
    have HC := Lib.hid (turned_c n _ x2 HNX.out (by omega))
    clear ox2 kx2
    go_wp2_with fail
    refine HC.out.mono ?_
    rintro e x3 ⟨⟨ax3, cx3, rfl, ox3⟩, kx3⟩
    have HR3 := Lib.hid (owns_lys ox3 HNR.out)
    rw [List.length_reverse] at HR3 ⊢
    have HKX := Lib.hid (HKX.out.trans kx3)
    have HC := Lib.hid (sameL_c n.reverse n.reverse _ _ x3 (lys_kept HR2.out kx3) HR3.out)
    rw [show decide (n.reverse = n.reverse) = true from decide_eq_true rfl] at HC
    clear ox3 kx3
    go_wp2_with fail
    refine HC.out.mono ?_
    rintro e x4 ⟨rfl, kx4⟩
    have HKX := Lib.hid (HKX.out.trans kx4)
    clear kx4 HC
    go_wp2_with fail
    go_ret
    exact ⟨rfl, HKX.out⟩

end Go.Proofs.Ytjfhfalhcmgaaaa
