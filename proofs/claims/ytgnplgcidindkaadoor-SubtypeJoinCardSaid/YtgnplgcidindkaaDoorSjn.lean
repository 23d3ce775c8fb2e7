/- The walk of SubtypeJoin over a table that lies in memory. -/
import Derived.Test.YtgnplgcidindkaaDoorSor
set_option linter.unusedSimpArgs false
set_option linter.unusedVariables false
set_option maxRecDepth 100000
namespace Go.Proofs.YtgnplgcidindkaaDoor
open Go.ChangeShapes Go.WideShapes Go.ChangeAt Go.RowKit

theorem join_ok {t : List Tab.C} (h : Tab.ok t = true) {x y : ByteArray} (hx : x ∈ typs t) (hy : y ∈ typs t) : Tab.join t x y = Tab.meet t x y := by
  unfold Tab.join Tab.ats
  rw [h, typs_typ h hx, typs_typ h hy]
  rfl
theorem join_no {t : List Tab.C} (h : Tab.ok t = true) {x y z : ByteArray} (hx : x ∈ typs t) (hy : y ∈ typs t) (hz : z ∈ typs t) (hm : Tab.meet t x y = none) (h1 : Tab.sub t x z = true) : Tab.sub t y z = false := by
  rw [sub_iff h hx hz] at h1
  rw [sub_iff h hy hz]
  exact decide_eq_false (Tab.meet_none hm z (of_decide_eq_true h1))
theorem sub_up {t : List Tab.C} (h : Tab.ok t = true) {x u : ByteArray} (hx : Tab.isT t x = true) (hu : u ∈ Tab.up t x) : Tab.sub t x u = true := by
  unfold Tab.sub Tab.ats
  rw [h, hx, (Tab.ok_valid h).up_typ hu hx, decide_eq_true hu]
  rfl
theorem join_yes {t : List Tab.C} (h : Tab.ok t = true) {x y j : ByteArray} (hx : x ∈ typs t) (hy : y ∈ typs t) (hm : Tab.meet t x y = some j) :
    Tab.sub t x j = true ∧ Tab.sub t y j = true ∧ ∀ z, z ∈ typs t → Tab.sub t x z = true → Tab.sub t y z = true → Tab.sub t j z = true := by
  obtain ⟨h1, h2, h3⟩ := (Tab.ok_valid h).meet_spec hm
  refine ⟨sub_up h (typs_typ h hx) h1, sub_up h (typs_typ h hy) h2, fun z hz e1 e2 => ?_⟩
  rw [sub_iff h hx hz] at e1
  rw [sub_iff h hy hz] at e2
  exact sub_up h ((Tab.ok_valid h).up_typ h1 (typs_typ h hx)) (h3 z (of_decide_eq_true e1) (of_decide_eq_true e2))

set_option maxHeartbeats 16000000 in
theorem joinlaw_c (t : List Tab.C) (a : Option Addr) (cp : Nat) (x1 x2 x3 : Int) (w : World) (hTb : Tb w) (h : TabAt w (.slice a t.length cp) t) (p1 : -9223372036854775808 ≤ x1) (q1 : x1 ≤ 9223372036854775807) (p2 : -9223372036854775808 ≤ x2) (q2 : x2 ≤ 9223372036854775807) (p3 : -9223372036854775808 ≤ x3) (q3 : x3 ≤ 9223372036854775807) :
    Calls Tryd.prog 8 #[.slice a t.length cp, .int .i64 x1, .int .i64 x2, .int .i64 x3] w fun e w' => e = .returned (.bool true) ∧ Kept w w' := by
  have HTB := Lib.hid hTb
  have HT := Lib.hid h
  clear hTb h
  have hfd : ∀ (fe fa : Int) (w : World), (Instr.field 51 (.agg #[.int .i64 fe, .int .i64 fa]) 0).run Tryd.prog w = .ok (.int .i64 fe) w := fun _ _ _ => by kernel_rfl
  go_enter Tryd.func8, Tryd.ntmps8
  go_wp2_with fail
  refine (known6_c w HTB.out).mono ?_
  rintro e w1 ⟨rfl, k1⟩
  have HK1 := Lib.hid k1
  have HL := Lib.hid (long_c t (.slice a t.length cp) w1 (tab_kept HT.out k1))
  clear k1
  go_wp2_with fail
  refine HL.out.mono ?_
  rintro e w2 ⟨⟨lb, rfl, hsh⟩, k2⟩
  have HK2 := Lib.hid (HK1.out.trans k2)
  clear k2
  cases lb with
  | true =>
    clear hsh
    go_wp2_with fail
    go_ret
    exact ⟨rfl, HK2.out⟩
  | false =>
    have HSH := Lib.hid (hsh rfl)
    clear hsh HL
    have h9 := HSH.out.1
    have HC := Lib.hid (check_c t a cp w2 (HTB.out.kept HK2.out) (tab_kept HT.out HK2.out) (small_short HSH.out))
    obtain ⟨fe, fa, hfe⟩ : ∃ fe fa, Tab.check t = (fe, fa) := ⟨_, _, rfl⟩
    rw [hfe] at HC
    dsimp only at HC
    go_wp2_with fail
    refine HC.out.mono ?_
    rintro e wc ⟨rfl, kc⟩
    have HKc := Lib.hid (HK2.out.trans kc)
    clear kc HC
    by_cases z1 : fe = 0
    · subst z1
      have HO := Lib.hid (show Tab.ok t = true by unfold Tab.ok; rw [hfe]; rfl)
      clear hfe
      have HY := Lib.hid (types6_c t a cp wc (tab_kept HT.out HKc.out) (by omega))
      go_wp2_with fail
      refine HY.out.mono ?_
      rintro e w3 ⟨v3, rfl, hr3, k3⟩
      have HK3 := Lib.hid (HKc.out.trans k3)
      have hrow := owns_row hr3
      have hln : (typs t).length = 6 + t.length := typL_len t (Nat.le_refl t.length)
      obtain ⟨la, lc, rfl⟩ := owns_slice_n hr3
      obtain ⟨n, hn⟩ : ∃ n, (typs t).length = n := ⟨_, rfl⟩
      rw [hn] at hrow hln ⊢
      have h0 : 0 < n := by omega
      have hn9 : n ≤ 1000 := by omega
      obtain ⟨lb, lo, rfl⟩ : ∃ b o, la = some ⟨b, o, none⟩ := by
        obtain ⟨a', c', e, g1, g2, g3⟩ := hrow
        injection e with e1 e2 e3
        have hx := List.getElem?_eq_getElem (show 0 < (typs t).length by omega)
        obtain ⟨b, o, e, _⟩ := g3 0 _ hx
        exact ⟨b, o, by rw [e1, e]⟩
      clear hln
      have HP1 := Lib.hid (pick_v x1 n w3.drew h0 (by omega) p1 q1)
      have HP2 := Lib.hid (pick_v x2 n w3.drew h0 (by omega) p2 q2)
      have HP3 := Lib.hid (pick_v x3 n w3.drew h0 (by omega) p3 q3)
      have l1 := pickN_lt x1 h0
      have l2 := pickN_lt x2 h0
      have l3 := pickN_lt x3 h0
      generalize pickN x1 n = i1 at HP1 l1
      generalize pickN x2 n = i2 at HP2 l2
      generalize pickN x3 n = i3 at HP3 l3
      have l1I : (i1 : Int) < (n : Int) := by omega
      have l2I : (i2 : Int) < (n : Int) := by omega
      have l3I : (i3 : Int) < (n : Int) := by omega
      obtain ⟨X, cX, mX, hc1, hc2⟩ := typ_cell (v := .slice none 0 0) hrow l1
      obtain ⟨Y, cY, mY, _, _⟩ := typ_cell (v := .slice none 0 0) hrow l2
      obtain ⟨Z, cZ, mZ, _, _⟩ := typ_cell (v := .slice none 0 0) hrow l3
      have HX := Lib.hid mX
      have HYY := Lib.hid mY
      have HZ := Lib.hid mZ
      clear hr3 k3 HY hrow hn mX mY mZ
      go_wp2_with fail
      refine wp_cut (A := { tmps := #[.slice a t.length cp, .int .i64 x1, .int .i64 x2, .int .i64 x3, undef, undef, undef, undef, .bool false, .bool true, .slice (some ⟨lb, lo, none⟩) n lc, .string X, .string Y, .string Z, undef, undef, undef, undef, undef, .bool true, .slice a t.length cp, .bool false, .bool false, .slice a t.length cp, .agg #[.int .i64 0, .int .i64 fa], .int .i64 0, .bool false, .bool false, undef, .slice a t.length cp, .slice (some ⟨lb, lo, none⟩) n lc, .slice (some ⟨lb, lo, none⟩) n lc, .int .i64 x1, .slice (some ⟨lb, lo, none⟩) n lc, .int .i64 (n : Int), .int .i64 (i1 : Int), .pointer (some ⟨lb, lo + i1, none⟩), .string X, .slice (some ⟨lb, lo, none⟩) n lc, .int .i64 x2, .slice (some ⟨lb, lo, none⟩) n lc, .int .i64 (n : Int), .int .i64 (i2 : Int), .pointer (some ⟨lb, lo + i2, none⟩), .string Y, .slice (some ⟨lb, lo, none⟩) n lc, .int .i64 x3, .slice (some ⟨lb, lo, none⟩) n lc, .int .i64 (n : Int), .int .i64 (i3 : Int), .pointer (some ⟨lb, lo + i3, none⟩), .string Z, undef, undef, undef, undef, undef, undef, undef, undef, undef, undef, undef, undef, undef, undef, undef, undef, undef, undef, undef, undef, undef, undef, undef, undef, undef, undef, undef, undef, undef, undef, undef, undef, undef, undef, undef, undef, undef, undef, undef, undef, undef, undef, undef, undef, undef, undef, undef, undef, undef, undef, undef, undef, undef, undef, undef, undef, undef, undef, undef, undef, undef, undef, undef, undef, undef, undef], defers := [] }) (fun w' => w' = w3.drew) ?h ?hk
      case h =>
        refine wp_region_any (by kernel_rfl) ?_
        change wpAny _ _ _ _ _ _ _ (World.drew _)
        refine any_states (fun G hG => ?_)
        have hs0' : G 0 #[true, true, true, true, true, true, true, true, true, true, true, true, true, true, true, true, true, true, true, true, true, true, true, true] { tmps := #[.slice a t.length cp, .int .i64 x1, .int .i64 x2, .int .i64 x3, undef, undef, undef, undef, .bool false, .bool true, .slice (some ⟨lb, lo, none⟩) n lc, .string X, .string Y, .string Z, undef, undef, undef, undef, undef, .bool true, .slice a t.length cp, .bool false, .bool false, .slice a t.length cp, .agg #[.int .i64 0, .int .i64 fa], .int .i64 0, .bool false, .bool false, undef, .slice a t.length cp, .slice (some ⟨lb, lo, none⟩) n lc, .slice (some ⟨lb, lo, none⟩) n lc, .int .i64 x1, .slice (some ⟨lb, lo, none⟩) n lc, .int .i64 (n : Int), .int .i64 (i1 : Int), .pointer (some ⟨lb, lo + i1, none⟩), .string X, .slice (some ⟨lb, lo, none⟩) n lc, .int .i64 x2, .slice (some ⟨lb, lo, none⟩) n lc, .int .i64 (n : Int), .int .i64 (i2 : Int), .pointer (some ⟨lb, lo + i2, none⟩), .string Y, .slice (some ⟨lb, lo, none⟩) n lc, .int .i64 x3, .slice (some ⟨lb, lo, none⟩) n lc, .int .i64 (n : Int), .int .i64 (i3 : Int), .pointer (some ⟨lb, lo + i3, none⟩), .string Z, undef, undef, undef, undef, undef, undef, undef, undef, undef, undef, undef, undef, undef, undef, undef, undef, undef, undef, undef, undef, undef, undef, undef, undef, undef, undef, undef, undef, undef, undef, undef, undef, undef, undef, undef, undef, undef, undef, undef, undef, undef, undef, undef, undef, undef, undef, undef, undef, undef, undef, undef, undef, undef, undef, undef, undef, undef, undef, undef, undef, undef, undef, undef, undef, undef, undef], defers := [] } w3.drew := by
          rw [hG]
          refine wpAny_done (by kernel_rfl) ?_ _
          exact ⟨rfl, rfl⟩
        have hs0 := Lib.hid hs0'
        clear hs0'
        have hs1' : G 2 #[true, true, true, true, true, true, true, true, true, true, true, true, true, true, true, true, true, true, true, true, false, true, true, false] { tmps := #[.slice a t.length cp, .int .i64 x1, .int .i64 x2, .int .i64 x3, undef, undef, undef, undef, .bool false, .bool true, .slice (some ⟨lb, lo, none⟩) n lc, .string X, .string Y, undef, undef, undef, undef, undef, undef, .bool true, .slice a t.length cp, .bool false, .bool false, .slice a t.length cp, .agg #[.int .i64 0, .int .i64 fa], .int .i64 0, .bool false, .bool false, undef, .slice a t.length cp, .slice (some ⟨lb, lo, none⟩) n lc, .slice (some ⟨lb, lo, none⟩) n lc, .int .i64 x1, .slice (some ⟨lb, lo, none⟩) n lc, .int .i64 (n : Int), .int .i64 (i1 : Int), .pointer (some ⟨lb, lo + i1, none⟩), .string X, .slice (some ⟨lb, lo, none⟩) n lc, .int .i64 x2, .slice (some ⟨lb, lo, none⟩) n lc, .int .i64 (n : Int), .int .i64 (i2 : Int), .pointer (some ⟨lb, lo + i2, none⟩), .string Y, .slice (some ⟨lb, lo, none⟩) n lc, .int .i64 x3, .slice (some ⟨lb, lo, none⟩) n lc, .int .i64 (n : Int), .int .i64 (i3 : Int), .pointer (some ⟨lb, lo + i3, none⟩), undef, undef, undef, undef, undef, undef, undef, undef, undef, undef, undef, undef, undef, undef, undef, undef, undef, undef, undef, undef, undef, undef, undef, undef, undef, undef, undef, undef, undef, undef, undef, undef, undef, undef, undef, undef, undef, undef, undef, undef, undef, undef, undef, undef, undef, undef, undef, undef, undef, undef, undef, undef, undef, undef, undef, undef, undef, undef, undef, undef, undef, undef, undef, undef, undef, undef, undef], defers := [] } w3.drew := by
          rw [hG]
          refine wpAny_ready (rs := [20]) (by kernel_rfl) (by simp) ?_
          refine AllReady.cons rfl (fun K hK => ?_) ?_
          · go_simp
            refine hK _ _ ?_; clear hK K
            refine wpAny_take (i := 23) (v := .string Z) rfl (by kernel_rfl) (by kernel_rfl) (by kernel_rfl) (fun _ _ _ h => h) (Or.inl ⟨by kernel_rfl, by intro w; kernel_rfl⟩) ?_
            exact any_eq hG (by kernel_rfl) (by kernel_rfl) (by kernel_rfl) hs0.out
          exact AllReady.nil
        have hs1 := Lib.hid hs1'
        clear hs1'
        have hs2' : G 6 #[true, true, true, true, true, true, true, true, true, true, true, true, true, true, true, true, true, true, false, false, false, false, false, false] { tmps := #[.slice a t.length cp, .int .i64 x1, .int .i64 x2, .int .i64 x3, undef, undef, undef, undef, .bool false, .bool true, .slice (some ⟨lb, lo, none⟩) n lc, undef, undef, undef, undef, undef, undef, undef, undef, .bool true, .slice a t.length cp, .bool false, .bool false, .slice a t.length cp, .agg #[.int .i64 0, .int .i64 fa], .int .i64 0, .bool false, .bool false, undef, .slice a t.length cp, .slice (some ⟨lb, lo, none⟩) n lc, .slice (some ⟨lb, lo, none⟩) n lc, .int .i64 x1, .slice (some ⟨lb, lo, none⟩) n lc, .int .i64 (n : Int), .int .i64 (i1 : Int), .pointer (some ⟨lb, lo + i1, none⟩), .string X, .slice (some ⟨lb, lo, none⟩) n lc, .int .i64 x2, .slice (some ⟨lb, lo, none⟩) n lc, .int .i64 (n : Int), .int .i64 (i2 : Int), .pointer (some ⟨lb, lo + i2, none⟩), .string Y, .slice (some ⟨lb, lo, none⟩) n lc, .int .i64 x3, .slice (some ⟨lb, lo, none⟩) n lc, .int .i64 (n : Int), undef, undef, undef, undef, undef, undef, undef, undef, undef, undef, undef, undef, undef, undef, undef, undef, undef, undef, undef, undef, undef, undef, undef, undef, undef, undef, undef, undef, undef, undef, undef, undef, undef, undef, undef, undef, undef, undef, undef, undef, undef, undef, undef, undef, undef, undef, undef, undef, undef, undef, undef, undef, undef, undef, undef, undef, undef, undef, undef, undef, undef, undef, undef, undef, undef, undef, undef, undef, undef], defers := [] } w3.drew := by
          rw [hG]
          refine wpAny_ready (rs := [18]) (by kernel_rfl) (by simp) ?_
          refine AllReady.cons rfl (fun K hK => ?_) ?_
          · go_simp
            go_wp2_with fail
            refine HP3.out.mono ?_
            rintro e w9 ⟨rfl, rfl⟩
            dsimp only
            refine hK _ _ ?_; clear hK K
            refine wpAny_take (i := 19) (v := .pointer (some ⟨lb, lo + i3, none⟩)) rfl (by kernel_rfl) (by kernel_rfl) (by kernel_rfl) (fun _ _ _ h => h) (Or.inl ⟨by kernel_rfl, by intro w; go_simp; try with_reducible rfl⟩) ?_
            refine wpAny_take (i := 21) (v := .string X) rfl (by kernel_rfl) (by kernel_rfl) (by kernel_rfl) (fun _ _ _ h => h) (Or.inl ⟨by kernel_rfl, by intro w; kernel_rfl⟩) ?_
            refine wpAny_take (i := 22) (v := .string Y) rfl (by kernel_rfl) (by kernel_rfl) (by kernel_rfl) (fun _ _ _ h => h) (Or.inl ⟨by kernel_rfl, by intro w; kernel_rfl⟩) ?_
            exact any_eq hG (by kernel_rfl) (by kernel_rfl) (by kernel_rfl) hs1.out
          exact AllReady.nil
        have hs2 := Lib.hid hs2'
        clear hs2'
        have hs3' : G 7 #[true, true, true, true, true, true, true, true, true, true, true, true, true, true, true, true, true, false, false, false, false, false, false, false] { tmps := #[.slice a t.length cp, .int .i64 x1, .int .i64 x2, .int .i64 x3, undef, undef, undef, undef, .bool false, .bool true, .slice (some ⟨lb, lo, none⟩) n lc, undef, undef, undef, undef, undef, undef, undef, undef, .bool true, .slice a t.length cp, .bool false, .bool false, .slice a t.length cp, .agg #[.int .i64 0, .int .i64 fa], .int .i64 0, .bool false, .bool false, undef, .slice a t.length cp, .slice (some ⟨lb, lo, none⟩) n lc, .slice (some ⟨lb, lo, none⟩) n lc, .int .i64 x1, .slice (some ⟨lb, lo, none⟩) n lc, .int .i64 (n : Int), .int .i64 (i1 : Int), .pointer (some ⟨lb, lo + i1, none⟩), .string X, .slice (some ⟨lb, lo, none⟩) n lc, .int .i64 x2, .slice (some ⟨lb, lo, none⟩) n lc, .int .i64 (n : Int), .int .i64 (i2 : Int), .pointer (some ⟨lb, lo + i2, none⟩), .string Y, .slice (some ⟨lb, lo, none⟩) n lc, .int .i64 x3, .slice (some ⟨lb, lo, none⟩) n lc, undef, undef, undef, undef, undef, undef, undef, undef, undef, undef, undef, undef, undef, undef, undef, undef, undef, undef, undef, undef, undef, undef, undef, undef, undef, undef, undef, undef, undef, undef, undef, undef, undef, undef, undef, undef, undef, undef, undef, undef, undef, undef, undef, undef, undef, undef, undef, undef, undef, undef, undef, undef, undef, undef, undef, undef, undef, undef, undef, undef, undef, undef, undef, undef, undef, undef, undef, undef, undef, undef], defers := [] } w3.drew := by
          rw [hG]
          refine wpAny_ready (rs := [17]) (by kernel_rfl) (by simp) ?_
          refine AllReady.cons rfl (fun K hK => ?_) ?_
          · go_simp
            refine hK _ _ ?_; clear hK K
            exact any_eq hG (by kernel_rfl) (by kernel_rfl) (by kernel_rfl) hs2.out
          exact AllReady.nil
        have hs3 := Lib.hid hs3'
        clear hs3'
        have hs4' : G 3 #[true, true, true, true, true, true, true, true, true, true, true, true, true, false, true, true, true, true, true, true, true, true, false, false] { tmps := #[.slice a t.length cp, .int .i64 x1, .int .i64 x2, .int .i64 x3, undef, undef, undef, undef, .bool false, .bool true, .slice (some ⟨lb, lo, none⟩) n lc, .string X, undef, undef, undef, undef, undef, undef, undef, .bool true, .slice a t.length cp, .bool false, .bool false, .slice a t.length cp, .agg #[.int .i64 0, .int .i64 fa], .int .i64 0, .bool false, .bool false, undef, .slice a t.length cp, .slice (some ⟨lb, lo, none⟩) n lc, .slice (some ⟨lb, lo, none⟩) n lc, .int .i64 x1, .slice (some ⟨lb, lo, none⟩) n lc, .int .i64 (n : Int), .int .i64 (i1 : Int), .pointer (some ⟨lb, lo + i1, none⟩), .string X, .slice (some ⟨lb, lo, none⟩) n lc, .int .i64 x2, .slice (some ⟨lb, lo, none⟩) n lc, .int .i64 (n : Int), .int .i64 (i2 : Int), .pointer (some ⟨lb, lo + i2, none⟩), undef, .slice (some ⟨lb, lo, none⟩) n lc, .int .i64 x3, .slice (some ⟨lb, lo, none⟩) n lc, .int .i64 (n : Int), .int .i64 (i3 : Int), .pointer (some ⟨lb, lo + i3, none⟩), .string Z, undef, undef, undef, undef, undef, undef, undef, undef, undef, undef, undef, undef, undef, undef, undef, undef, undef, undef, undef, undef, undef, undef, undef, undef, undef, undef, undef, undef, undef, undef, undef, undef, undef, undef, undef, undef, undef, undef, undef, undef, undef, undef, undef, undef, undef, undef, undef, undef, undef, undef, undef, undef, undef, undef, undef, undef, undef, undef, undef, undef, undef, undef, undef, undef, undef, undef], defers := [] } w3.drew := by
          rw [hG]
          refine wpAny_ready (rs := [13]) (by kernel_rfl) (by simp) ?_
          refine AllReady.cons rfl (fun K hK => ?_) ?_
          · go_simp
            refine hK _ _ ?_; clear hK K
            refine wpAny_take (i := 22) (v := .string Y) rfl (by kernel_rfl) (by kernel_rfl) (by kernel_rfl) (fun _ _ _ h => h) (Or.inl ⟨by kernel_rfl, by intro w; kernel_rfl⟩) ?_
            refine wpAny_take (i := 23) (v := .string Z) rfl (by kernel_rfl) (by kernel_rfl) (by kernel_rfl) (fun _ _ _ h => h) (Or.inl ⟨by kernel_rfl, by intro w; kernel_rfl⟩) ?_
            exact any_eq hG (by kernel_rfl) (by kernel_rfl) (by kernel_rfl) hs0.out
          exact AllReady.nil
        have hs4 := Lib.hid hs4'
        clear hs4'
        have hs5' : G 4 #[true, true, true, true, true, true, true, true, true, true, true, true, true, false, true, true, true, true, true, true, false, true, false, false] { tmps := #[.slice a t.length cp, .int .i64 x1, .int .i64 x2, .int .i64 x3, undef, undef, undef, undef, .bool false, .bool true, .slice (some ⟨lb, lo, none⟩) n lc, .string X, undef, undef, undef, undef, undef, undef, undef, .bool true, .slice a t.length cp, .bool false, .bool false, .slice a t.length cp, .agg #[.int .i64 0, .int .i64 fa], .int .i64 0, .bool false, .bool false, undef, .slice a t.length cp, .slice (some ⟨lb, lo, none⟩) n lc, .slice (some ⟨lb, lo, none⟩) n lc, .int .i64 x1, .slice (some ⟨lb, lo, none⟩) n lc, .int .i64 (n : Int), .int .i64 (i1 : Int), .pointer (some ⟨lb, lo + i1, none⟩), .string X, .slice (some ⟨lb, lo, none⟩) n lc, .int .i64 x2, .slice (some ⟨lb, lo, none⟩) n lc, .int .i64 (n : Int), .int .i64 (i2 : Int), .pointer (some ⟨lb, lo + i2, none⟩), undef, .slice (some ⟨lb, lo, none⟩) n lc, .int .i64 x3, .slice (some ⟨lb, lo, none⟩) n lc, .int .i64 (n : Int), .int .i64 (i3 : Int), .pointer (some ⟨lb, lo + i3, none⟩), undef, undef, undef, undef, undef, undef, undef, undef, undef, undef, undef, undef, undef, undef, undef, undef, undef, undef, undef, undef, undef, undef, undef, undef, undef, undef, undef, undef, undef, undef, undef, undef, undef, undef, undef, undef, undef, undef, undef, undef, undef, undef, undef, undef, undef, undef, undef, undef, undef, undef, undef, undef, undef, undef, undef, undef, undef, undef, undef, undef, undef, undef, undef, undef, undef, undef, undef], defers := [] } w3.drew := by
          rw [hG]
          refine wpAny_ready (rs := [13, 20]) (by kernel_rfl) (by simp) ?_
          refine AllReady.cons rfl (fun K hK => ?_) ?_
          · go_simp
            refine hK _ _ ?_; clear hK K
            refine wpAny_take (i := 22) (v := .string Y) rfl (by kernel_rfl) (by kernel_rfl) (by kernel_rfl) (fun _ _ _ h => h) (Or.inl ⟨by kernel_rfl, by intro w; kernel_rfl⟩) ?_
            exact any_eq hG (by kernel_rfl) (by kernel_rfl) (by kernel_rfl) hs1.out
          refine AllReady.cons rfl (fun K hK => ?_) ?_
          · go_simp
            refine hK _ _ ?_; clear hK K
            exact any_eq hG (by kernel_rfl) (by kernel_rfl) (by kernel_rfl) hs4.out
          exact AllReady.nil
        have hs5 := Lib.hid hs5'
        clear hs5'
        have hs6' : G 7 #[true, true, true, true, true, true, true, true, true, true, true, true, true, false, true, true, true, true, false, false, false, false, false, false] { tmps := #[.slice a t.length cp, .int .i64 x1, .int .i64 x2, .int .i64 x3, undef, undef, undef, undef, .bool false, .bool true, .slice (some ⟨lb, lo, none⟩) n lc, undef, undef, undef, undef, undef, undef, undef, undef, .bool true, .slice a t.length cp, .bool false, .bool false, .slice a t.length cp, .agg #[.int .i64 0, .int .i64 fa], .int .i64 0, .bool false, .bool false, undef, .slice a t.length cp, .slice (some ⟨lb, lo, none⟩) n lc, .slice (some ⟨lb, lo, none⟩) n lc, .int .i64 x1, .slice (some ⟨lb, lo, none⟩) n lc, .int .i64 (n : Int), .int .i64 (i1 : Int), .pointer (some ⟨lb, lo + i1, none⟩), .string X, .slice (some ⟨lb, lo, none⟩) n lc, .int .i64 x2, .slice (some ⟨lb, lo, none⟩) n lc, .int .i64 (n : Int), .int .i64 (i2 : Int), .pointer (some ⟨lb, lo + i2, none⟩), undef, .slice (some ⟨lb, lo, none⟩) n lc, .int .i64 x3, .slice (some ⟨lb, lo, none⟩) n lc, .int .i64 (n : Int), undef, undef, undef, undef, undef, undef, undef, undef, undef, undef, undef, undef, undef, undef, undef, undef, undef, undef, undef, undef, undef, undef, undef, undef, undef, undef, undef, undef, undef, undef, undef, undef, undef, undef, undef, undef, undef, undef, undef, undef, undef, undef, undef, undef, undef, undef, undef, undef, undef, undef, undef, undef, undef, undef, undef, undef, undef, undef, undef, undef, undef, undef, undef, undef, undef, undef, undef, undef, undef], defers := [] } w3.drew := by
          rw [hG]
          refine wpAny_ready (rs := [13, 18]) (by kernel_rfl) (by simp) ?_
          refine AllReady.cons rfl (fun K hK => ?_) ?_
          · go_simp
            refine hK _ _ ?_; clear hK K
            exact any_eq hG (by kernel_rfl) (by kernel_rfl) (by kernel_rfl) hs2.out
          refine AllReady.cons rfl (fun K hK => ?_) ?_
          · go_simp
            go_wp2_with fail
            refine HP3.out.mono ?_
            rintro e w9 ⟨rfl, rfl⟩
            dsimp only
            refine hK _ _ ?_; clear hK K
            refine wpAny_take (i := 19) (v := .pointer (some ⟨lb, lo + i3, none⟩)) rfl (by kernel_rfl) (by kernel_rfl) (by kernel_rfl) (fun _ _ _ h => h) (Or.inl ⟨by kernel_rfl, by intro w; go_simp; try with_reducible rfl⟩) ?_
            refine wpAny_take (i := 21) (v := .string X) rfl (by kernel_rfl) (by kernel_rfl) (by kernel_rfl) (fun _ _ _ h => h) (Or.inl ⟨by kernel_rfl, by intro w; kernel_rfl⟩) ?_
            exact any_eq hG (by kernel_rfl) (by kernel_rfl) (by kernel_rfl) hs5.out
          exact AllReady.nil
        have hs6 := Lib.hid hs6'
        clear hs6'
        have hs7' : G 8 #[true, true, true, true, true, true, true, true, true, true, true, true, true, false, true, true, true, false, false, false, false, false, false, false] { tmps := #[.slice a t.length cp, .int .i64 x1, .int .i64 x2, .int .i64 x3, undef, undef, undef, undef, .bool false, .bool true, .slice (some ⟨lb, lo, none⟩) n lc, undef, undef, undef, undef, undef, undef, undef, undef, .bool true, .slice a t.length cp, .bool false, .bool false, .slice a t.length cp, .agg #[.int .i64 0, .int .i64 fa], .int .i64 0, .bool false, .bool false, undef, .slice a t.length cp, .slice (some ⟨lb, lo, none⟩) n lc, .slice (some ⟨lb, lo, none⟩) n lc, .int .i64 x1, .slice (some ⟨lb, lo, none⟩) n lc, .int .i64 (n : Int), .int .i64 (i1 : Int), .pointer (some ⟨lb, lo + i1, none⟩), .string X, .slice (some ⟨lb, lo, none⟩) n lc, .int .i64 x2, .slice (some ⟨lb, lo, none⟩) n lc, .int .i64 (n : Int), .int .i64 (i2 : Int), .pointer (some ⟨lb, lo + i2, none⟩), undef, .slice (some ⟨lb, lo, none⟩) n lc, .int .i64 x3, .slice (some ⟨lb, lo, none⟩) n lc, undef, undef, undef, undef, undef, undef, undef, undef, undef, undef, undef, undef, undef, undef, undef, undef, undef, undef, undef, undef, undef, undef, undef, undef, undef, undef, undef, undef, undef, undef, undef, undef, undef, undef, undef, undef, undef, undef, undef, undef, undef, undef, undef, undef, undef, undef, undef, undef, undef, undef, undef, undef, undef, undef, undef, undef, undef, undef, undef, undef, undef, undef, undef, undef, undef, undef, undef, undef, undef, undef], defers := [] } w3.drew := by
          rw [hG]
          refine wpAny_ready (rs := [13, 17]) (by kernel_rfl) (by simp) ?_
          refine AllReady.cons rfl (fun K hK => ?_) ?_
          · go_simp
            refine hK _ _ ?_; clear hK K
            exact any_eq hG (by kernel_rfl) (by kernel_rfl) (by kernel_rfl) hs3.out
          refine AllReady.cons rfl (fun K hK => ?_) ?_
          · go_simp
            refine hK _ _ ?_; clear hK K
            exact any_eq hG (by kernel_rfl) (by kernel_rfl) (by kernel_rfl) hs6.out
          exact AllReady.nil
        have hs7 := Lib.hid hs7'
        clear hs7'
        have hs8' : G 9 #[true, true, true, true, true, true, true, true, true, true, true, false, false, false, true, true, true, true, false, false, false, false, false, false] { tmps := #[.slice a t.length cp, .int .i64 x1, .int .i64 x2, .int .i64 x3, undef, undef, undef, undef, .bool false, .bool true, .slice (some ⟨lb, lo, none⟩) n lc, undef, undef, undef, undef, undef, undef, undef, undef, .bool true, .slice a t.length cp, .bool false, .bool false, .slice a t.length cp, .agg #[.int .i64 0, .int .i64 fa], .int .i64 0, .bool false, .bool false, undef, .slice a t.length cp, .slice (some ⟨lb, lo, none⟩) n lc, .slice (some ⟨lb, lo, none⟩) n lc, .int .i64 x1, .slice (some ⟨lb, lo, none⟩) n lc, .int .i64 (n : Int), .int .i64 (i1 : Int), .pointer (some ⟨lb, lo + i1, none⟩), .string X, .slice (some ⟨lb, lo, none⟩) n lc, .int .i64 x2, .slice (some ⟨lb, lo, none⟩) n lc, .int .i64 (n : Int), undef, undef, undef, .slice (some ⟨lb, lo, none⟩) n lc, .int .i64 x3, .slice (some ⟨lb, lo, none⟩) n lc, .int .i64 (n : Int), undef, undef, undef, undef, undef, undef, undef, undef, undef, undef, undef, undef, undef, undef, undef, undef, undef, undef, undef, undef, undef, undef, undef, undef, undef, undef, undef, undef, undef, undef, undef, undef, undef, undef, undef, undef, undef, undef, undef, undef, undef, undef, undef, undef, undef, undef, undef, undef, undef, undef, undef, undef, undef, undef, undef, undef, undef, undef, undef, undef, undef, undef, undef, undef, undef, undef, undef, undef, undef], defers := [] } w3.drew := by
          rw [hG]
          refine wpAny_ready (rs := [11]) (by kernel_rfl) (by simp) ?_
          refine AllReady.cons rfl (fun K hK => ?_) ?_
          · go_simp
            go_wp2_with fail
            refine HP2.out.mono ?_
            rintro e w9 ⟨rfl, rfl⟩
            dsimp only
            refine hK _ _ ?_; clear hK K
            refine wpAny_take (i := 12) (v := .pointer (some ⟨lb, lo + i2, none⟩)) rfl (by kernel_rfl) (by kernel_rfl) (by kernel_rfl) (fun _ _ _ h => h) (Or.inl ⟨by kernel_rfl, by intro w; go_simp; try with_reducible rfl⟩) ?_
            exact any_eq hG (by kernel_rfl) (by kernel_rfl) (by kernel_rfl) hs6.out
          exact AllReady.nil
        have hs8 := Lib.hid hs8'
        clear hs8'
        have hs9' : G 10 #[true, true, true, true, true, true, true, true, true, true, true, false, false, false, true, true, true, false, false, false, false, false, false, false] { tmps := #[.slice a t.length cp, .int .i64 x1, .int .i64 x2, .int .i64 x3, undef, undef, undef, undef, .bool false, .bool true, .slice (some ⟨lb, lo, none⟩) n lc, undef, undef, undef, undef, undef, undef, undef, undef, .bool true, .slice a t.length cp, .bool false, .bool false, .slice a t.length cp, .agg #[.int .i64 0, .int .i64 fa], .int .i64 0, .bool false, .bool false, undef, .slice a t.length cp, .slice (some ⟨lb, lo, none⟩) n lc, .slice (some ⟨lb, lo, none⟩) n lc, .int .i64 x1, .slice (some ⟨lb, lo, none⟩) n lc, .int .i64 (n : Int), .int .i64 (i1 : Int), .pointer (some ⟨lb, lo + i1, none⟩), .string X, .slice (some ⟨lb, lo, none⟩) n lc, .int .i64 x2, .slice (some ⟨lb, lo, none⟩) n lc, .int .i64 (n : Int), undef, undef, undef, .slice (some ⟨lb, lo, none⟩) n lc, .int .i64 x3, .slice (some ⟨lb, lo, none⟩) n lc, undef, undef, undef, undef, undef, undef, undef, undef, undef, undef, undef, undef, undef, undef, undef, undef, undef, undef, undef, undef, undef, undef, undef, undef, undef, undef, undef, undef, undef, undef, undef, undef, undef, undef, undef, undef, undef, undef, undef, undef, undef, undef, undef, undef, undef, undef, undef, undef, undef, undef, undef, undef, undef, undef, undef, undef, undef, undef, undef, undef, undef, undef, undef, undef, undef, undef, undef, undef, undef, undef], defers := [] } w3.drew := by
          rw [hG]
          refine wpAny_ready (rs := [11, 17]) (by kernel_rfl) (by simp) ?_
          refine AllReady.cons rfl (fun K hK => ?_) ?_
          · go_simp
            go_wp2_with fail
            refine HP2.out.mono ?_
            rintro e w9 ⟨rfl, rfl⟩
            dsimp only
            refine hK _ _ ?_; clear hK K
            refine wpAny_take (i := 12) (v := .pointer (some ⟨lb, lo + i2, none⟩)) rfl (by kernel_rfl) (by kernel_rfl) (by kernel_rfl) (fun _ _ _ h => h) (Or.inl ⟨by kernel_rfl, by intro w; go_simp; try with_reducible rfl⟩) ?_
            exact any_eq hG (by kernel_rfl) (by kernel_rfl) (by kernel_rfl) hs7.out
          refine AllReady.cons rfl (fun K hK => ?_) ?_
          · go_simp
            refine hK _ _ ?_; clear hK K
            exact any_eq hG (by kernel_rfl) (by kernel_rfl) (by kernel_rfl) hs8.out
          exact AllReady.nil
        have hs9 := Lib.hid hs9'
        clear hs9'
        have hs10' : G 10 #[true, true, true, true, true, true, true, true, true, true, false, false, false, false, true, true, true, true, false, false, false, false, false, false] { tmps := #[.slice a t.length cp, .int .i64 x1, .int .i64 x2, .int .i64 x3, undef, undef, undef, undef, .bool false, .bool true, .slice (some ⟨lb, lo, none⟩) n lc, undef, undef, undef, undef, undef, undef, undef, undef, .bool true, .slice a t.length cp, .bool false, .bool false, .slice a t.length cp, .agg #[.int .i64 0, .int .i64 fa], .int .i64 0, .bool false, .bool false, undef, .slice a t.length cp, .slice (some ⟨lb, lo, none⟩) n lc, .slice (some ⟨lb, lo, none⟩) n lc, .int .i64 x1, .slice (some ⟨lb, lo, none⟩) n lc, .int .i64 (n : Int), .int .i64 (i1 : Int), .pointer (some ⟨lb, lo + i1, none⟩), .string X, .slice (some ⟨lb, lo, none⟩) n lc, .int .i64 x2, .slice (some ⟨lb, lo, none⟩) n lc, undef, undef, undef, undef, .slice (some ⟨lb, lo, none⟩) n lc, .int .i64 x3, .slice (some ⟨lb, lo, none⟩) n lc, .int .i64 (n : Int), undef, undef, undef, undef, undef, undef, undef, undef, undef, undef, undef, undef, undef, undef, undef, undef, undef, undef, undef, undef, undef, undef, undef, undef, undef, undef, undef, undef, undef, undef, undef, undef, undef, undef, undef, undef, undef, undef, undef, undef, undef, undef, undef, undef, undef, undef, undef, undef, undef, undef, undef, undef, undef, undef, undef, undef, undef, undef, undef, undef, undef, undef, undef, undef, undef, undef, undef, undef, undef], defers := [] } w3.drew := by
          rw [hG]
          refine wpAny_ready (rs := [10]) (by kernel_rfl) (by simp) ?_
          refine AllReady.cons rfl (fun K hK => ?_) ?_
          · go_simp
            refine hK _ _ ?_; clear hK K
            exact any_eq hG (by kernel_rfl) (by kernel_rfl) (by kernel_rfl) hs8.out
          exact AllReady.nil
        have hs10 := Lib.hid hs10'
        clear hs10'
        have hs11' : G 11 #[true, true, true, true, true, true, true, true, true, true, false, false, false, false, true, true, true, false, false, false, false, false, false, false] { tmps := #[.slice a t.length cp, .int .i64 x1, .int .i64 x2, .int .i64 x3, undef, undef, undef, undef, .bool false, .bool true, .slice (some ⟨lb, lo, none⟩) n lc, undef, undef, undef, undef, undef, undef, undef, undef, .bool true, .slice a t.length cp, .bool false, .bool false, .slice a t.length cp, .agg #[.int .i64 0, .int .i64 fa], .int .i64 0, .bool false, .bool false, undef, .slice a t.length cp, .slice (some ⟨lb, lo, none⟩) n lc, .slice (some ⟨lb, lo, none⟩) n lc, .int .i64 x1, .slice (some ⟨lb, lo, none⟩) n lc, .int .i64 (n : Int), .int .i64 (i1 : Int), .pointer (some ⟨lb, lo + i1, none⟩), .string X, .slice (some ⟨lb, lo, none⟩) n lc, .int .i64 x2, .slice (some ⟨lb, lo, none⟩) n lc, undef, undef, undef, undef, .slice (some ⟨lb, lo, none⟩) n lc, .int .i64 x3, .slice (some ⟨lb, lo, none⟩) n lc, undef, undef, undef, undef, undef, undef, undef, undef, undef, undef, undef, undef, undef, undef, undef, undef, undef, undef, undef, undef, undef, undef, undef, undef, undef, undef, undef, undef, undef, undef, undef, undef, undef, undef, undef, undef, undef, undef, undef, undef, undef, undef, undef, undef, undef, undef, undef, undef, undef, undef, undef, undef, undef, undef, undef, undef, undef, undef, undef, undef, undef, undef, undef, undef, undef, undef, undef, undef, undef, undef], defers := [] } w3.drew := by
          rw [hG]
          refine wpAny_ready (rs := [10, 17]) (by kernel_rfl) (by simp) ?_
          refine AllReady.cons rfl (fun K hK => ?_) ?_
          · go_simp
            refine hK _ _ ?_; clear hK K
            exact any_eq hG (by kernel_rfl) (by kernel_rfl) (by kernel_rfl) hs9.out
          refine AllReady.cons rfl (fun K hK => ?_) ?_
          · go_simp
            refine hK _ _ ?_; clear hK K
            exact any_eq hG (by kernel_rfl) (by kernel_rfl) (by kernel_rfl) hs10.out
          exact AllReady.nil
        have hs11 := Lib.hid hs11'
        clear hs11'
        have hs12' : G 4 #[true, true, true, true, true, true, false, true, true, true, true, true, true, true, true, true, true, true, true, true, true, false, false, false] { tmps := #[.slice a t.length cp, .int .i64 x1, .int .i64 x2, .int .i64 x3, undef, undef, undef, undef, .bool false, .bool true, .slice (some ⟨lb, lo, none⟩) n lc, undef, undef, undef, undef, undef, undef, undef, undef, .bool true, .slice a t.length cp, .bool false, .bool false, .slice a t.length cp, .agg #[.int .i64 0, .int .i64 fa], .int .i64 0, .bool false, .bool false, undef, .slice a t.length cp, .slice (some ⟨lb, lo, none⟩) n lc, .slice (some ⟨lb, lo, none⟩) n lc, .int .i64 x1, .slice (some ⟨lb, lo, none⟩) n lc, .int .i64 (n : Int), .int .i64 (i1 : Int), .pointer (some ⟨lb, lo + i1, none⟩), undef, .slice (some ⟨lb, lo, none⟩) n lc, .int .i64 x2, .slice (some ⟨lb, lo, none⟩) n lc, .int .i64 (n : Int), .int .i64 (i2 : Int), .pointer (some ⟨lb, lo + i2, none⟩), .string Y, .slice (some ⟨lb, lo, none⟩) n lc, .int .i64 x3, .slice (some ⟨lb, lo, none⟩) n lc, .int .i64 (n : Int), .int .i64 (i3 : Int), .pointer (some ⟨lb, lo + i3, none⟩), .string Z, undef, undef, undef, undef, undef, undef, undef, undef, undef, undef, undef, undef, undef, undef, undef, undef, undef, undef, undef, undef, undef, undef, undef, undef, undef, undef, undef, undef, undef, undef, undef, undef, undef, undef, undef, undef, undef, undef, undef, undef, undef, undef, undef, undef, undef, undef, undef, undef, undef, undef, undef, undef, undef, undef, undef, undef, undef, undef, undef, undef, undef, undef, undef, undef, undef, undef], defers := [] } w3.drew := by
          rw [hG]
          refine wpAny_ready (rs := [6]) (by kernel_rfl) (by simp) ?_
          refine AllReady.cons rfl (fun K hK => ?_) ?_
          · go_simp
            refine hK _ _ ?_; clear hK K
            refine wpAny_take (i := 21) (v := .string X) rfl (by kernel_rfl) (by kernel_rfl) (by kernel_rfl) (fun _ _ _ h => h) (Or.inl ⟨by kernel_rfl, by intro w; kernel_rfl⟩) ?_
            refine wpAny_take (i := 22) (v := .string Y) rfl (by kernel_rfl) (by kernel_rfl) (by kernel_rfl) (fun _ _ _ h => h) (Or.inl ⟨by kernel_rfl, by intro w; kernel_rfl⟩) ?_
            refine wpAny_take (i := 23) (v := .string Z) rfl (by kernel_rfl) (by kernel_rfl) (by kernel_rfl) (fun _ _ _ h => h) (Or.inl ⟨by kernel_rfl, by intro w; kernel_rfl⟩) ?_
            exact any_eq hG (by kernel_rfl) (by kernel_rfl) (by kernel_rfl) hs0.out
          exact AllReady.nil
        have hs12 := Lib.hid hs12'
        clear hs12'
        have hs13' : G 5 #[true, true, true, true, true, true, false, true, true, true, true, true, true, true, true, true, true, true, true, true, false, false, false, false] { tmps := #[.slice a t.length cp, .int .i64 x1, .int .i64 x2, .int .i64 x3, undef, undef, undef, undef, .bool false, .bool true, .slice (some ⟨lb, lo, none⟩) n lc, undef, undef, undef, undef, undef, undef, undef, undef, .bool true, .slice a t.length cp, .bool false, .bool false, .slice a t.length cp, .agg #[.int .i64 0, .int .i64 fa], .int .i64 0, .bool false, .bool false, undef, .slice a t.length cp, .slice (some ⟨lb, lo, none⟩) n lc, .slice (some ⟨lb, lo, none⟩) n lc, .int .i64 x1, .slice (some ⟨lb, lo, none⟩) n lc, .int .i64 (n : Int), .int .i64 (i1 : Int), .pointer (some ⟨lb, lo + i1, none⟩), undef, .slice (some ⟨lb, lo, none⟩) n lc, .int .i64 x2, .slice (some ⟨lb, lo, none⟩) n lc, .int .i64 (n : Int), .int .i64 (i2 : Int), .pointer (some ⟨lb, lo + i2, none⟩), .string Y, .slice (some ⟨lb, lo, none⟩) n lc, .int .i64 x3, .slice (some ⟨lb, lo, none⟩) n lc, .int .i64 (n : Int), .int .i64 (i3 : Int), .pointer (some ⟨lb, lo + i3, none⟩), undef, undef, undef, undef, undef, undef, undef, undef, undef, undef, undef, undef, undef, undef, undef, undef, undef, undef, undef, undef, undef, undef, undef, undef, undef, undef, undef, undef, undef, undef, undef, undef, undef, undef, undef, undef, undef, undef, undef, undef, undef, undef, undef, undef, undef, undef, undef, undef, undef, undef, undef, undef, undef, undef, undef, undef, undef, undef, undef, undef, undef, undef, undef, undef, undef, undef, undef], defers := [] } w3.drew := by
          rw [hG]
          refine wpAny_ready (rs := [6, 20]) (by kernel_rfl) (by simp) ?_
          refine AllReady.cons rfl (fun K hK => ?_) ?_
          · go_simp
            refine hK _ _ ?_; clear hK K
            refine wpAny_take (i := 21) (v := .string X) rfl (by kernel_rfl) (by kernel_rfl) (by kernel_rfl) (fun _ _ _ h => h) (Or.inl ⟨by kernel_rfl, by intro w; kernel_rfl⟩) ?_
            refine wpAny_take (i := 22) (v := .string Y) rfl (by kernel_rfl) (by kernel_rfl) (by kernel_rfl) (fun _ _ _ h => h) (Or.inl ⟨by kernel_rfl, by intro w; kernel_rfl⟩) ?_
            exact any_eq hG (by kernel_rfl) (by kernel_rfl) (by kernel_rfl) hs1.out
          refine AllReady.cons rfl (fun K hK => ?_) ?_
          · go_simp
            refine hK _ _ ?_; clear hK K
            exact any_eq hG (by kernel_rfl) (by kernel_rfl) (by kernel_rfl) hs12.out
          exact AllReady.nil
        have hs13 := Lib.hid hs13'
        clear hs13'
        have hs14' : G 7 #[true, true, true, true, true, true, false, true, true, true, true, true, true, true, true, true, true, true, false, false, false, false, false, false] { tmps := #[.slice a t.length cp, .int .i64 x1, .int .i64 x2, .int .i64 x3, undef, undef, undef, undef, .bool false, .bool true, .slice (some ⟨lb, lo, none⟩) n lc, undef, undef, undef, undef, undef, undef, undef, undef, .bool true, .slice a t.length cp, .bool false, .bool false, .slice a t.length cp, .agg #[.int .i64 0, .int .i64 fa], .int .i64 0, .bool false, .bool false, undef, .slice a t.length cp, .slice (some ⟨lb, lo, none⟩) n lc, .slice (some ⟨lb, lo, none⟩) n lc, .int .i64 x1, .slice (some ⟨lb, lo, none⟩) n lc, .int .i64 (n : Int), .int .i64 (i1 : Int), .pointer (some ⟨lb, lo + i1, none⟩), undef, .slice (some ⟨lb, lo, none⟩) n lc, .int .i64 x2, .slice (some ⟨lb, lo, none⟩) n lc, .int .i64 (n : Int), .int .i64 (i2 : Int), .pointer (some ⟨lb, lo + i2, none⟩), .string Y, .slice (some ⟨lb, lo, none⟩) n lc, .int .i64 x3, .slice (some ⟨lb, lo, none⟩) n lc, .int .i64 (n : Int), undef, undef, undef, undef, undef, undef, undef, undef, undef, undef, undef, undef, undef, undef, undef, undef, undef, undef, undef, undef, undef, undef, undef, undef, undef, undef, undef, undef, undef, undef, undef, undef, undef, undef, undef, undef, undef, undef, undef, undef, undef, undef, undef, undef, undef, undef, undef, undef, undef, undef, undef, undef, undef, undef, undef, undef, undef, undef, undef, undef, undef, undef, undef, undef, undef, undef, undef, undef, undef], defers := [] } w3.drew := by
          rw [hG]
          refine wpAny_ready (rs := [6, 18]) (by kernel_rfl) (by simp) ?_
          refine AllReady.cons rfl (fun K hK => ?_) ?_
          · go_simp
            refine hK _ _ ?_; clear hK K
            exact any_eq hG (by kernel_rfl) (by kernel_rfl) (by kernel_rfl) hs2.out
          refine AllReady.cons rfl (fun K hK => ?_) ?_
          · go_simp
            go_wp2_with fail
            refine HP3.out.mono ?_
            rintro e w9 ⟨rfl, rfl⟩
            dsimp only
            refine hK _ _ ?_; clear hK K
            refine wpAny_take (i := 19) (v := .pointer (some ⟨lb, lo + i3, none⟩)) rfl (by kernel_rfl) (by kernel_rfl) (by kernel_rfl) (fun _ _ _ h => h) (Or.inl ⟨by kernel_rfl, by intro w; go_simp; try with_reducible rfl⟩) ?_
            exact any_eq hG (by kernel_rfl) (by kernel_rfl) (by kernel_rfl) hs13.out
          exact AllReady.nil
        have hs14 := Lib.hid hs14'
        clear hs14'
        have hs15' : G 8 #[true, true, true, true, true, true, false, true, true, true, true, true, true, true, true, true, true, false, false, false, false, false, false, false] { tmps := #[.slice a t.length cp, .int .i64 x1, .int .i64 x2, .int .i64 x3, undef, undef, undef, undef, .bool false, .bool true, .slice (some ⟨lb, lo, none⟩) n lc, undef, undef, undef, undef, undef, undef, undef, undef, .bool true, .slice a t.length cp, .bool false, .bool false, .slice a t.length cp, .agg #[.int .i64 0, .int .i64 fa], .int .i64 0, .bool false, .bool false, undef, .slice a t.length cp, .slice (some ⟨lb, lo, none⟩) n lc, .slice (some ⟨lb, lo, none⟩) n lc, .int .i64 x1, .slice (some ⟨lb, lo, none⟩) n lc, .int .i64 (n : Int), .int .i64 (i1 : Int), .pointer (some ⟨lb, lo + i1, none⟩), undef, .slice (some ⟨lb, lo, none⟩) n lc, .int .i64 x2, .slice (some ⟨lb, lo, none⟩) n lc, .int .i64 (n : Int), .int .i64 (i2 : Int), .pointer (some ⟨lb, lo + i2, none⟩), .string Y, .slice (some ⟨lb, lo, none⟩) n lc, .int .i64 x3, .slice (some ⟨lb, lo, none⟩) n lc, undef, undef, undef, undef, undef, undef, undef, undef, undef, undef, undef, undef, undef, undef, undef, undef, undef, undef, undef, undef, undef, undef, undef, undef, undef, undef, undef, undef, undef, undef, undef, undef, undef, undef, undef, undef, undef, undef, undef, undef, undef, undef, undef, undef, undef, undef, undef, undef, undef, undef, undef, undef, undef, undef, undef, undef, undef, undef, undef, undef, undef, undef, undef, undef, undef, undef, undef, undef, undef, undef], defers := [] } w3.drew := by
          rw [hG]
          refine wpAny_ready (rs := [6, 17]) (by kernel_rfl) (by simp) ?_
          refine AllReady.cons rfl (fun K hK => ?_) ?_
          · go_simp
            refine hK _ _ ?_; clear hK K
            exact any_eq hG (by kernel_rfl) (by kernel_rfl) (by kernel_rfl) hs3.out
          refine AllReady.cons rfl (fun K hK => ?_) ?_
          · go_simp
            refine hK _ _ ?_; clear hK K
            exact any_eq hG (by kernel_rfl) (by kernel_rfl) (by kernel_rfl) hs14.out
          exact AllReady.nil
        have hs15 := Lib.hid hs15'
        clear hs15'
        have hs16' : G 5 #[true, true, true, true, true, true, false, true, true, true, true, true, true, false, true, true, true, true, true, true, true, false, false, false] { tmps := #[.slice a t.length cp, .int .i64 x1, .int .i64 x2, .int .i64 x3, undef, undef, undef, undef, .bool false, .bool true, .slice (some ⟨lb, lo, none⟩) n lc, undef, undef, undef, undef, undef, undef, undef, undef, .bool true, .slice a t.length cp, .bool false, .bool false, .slice a t.length cp, .agg #[.int .i64 0, .int .i64 fa], .int .i64 0, .bool false, .bool false, undef, .slice a t.length cp, .slice (some ⟨lb, lo, none⟩) n lc, .slice (some ⟨lb, lo, none⟩) n lc, .int .i64 x1, .slice (some ⟨lb, lo, none⟩) n lc, .int .i64 (n : Int), .int .i64 (i1 : Int), .pointer (some ⟨lb, lo + i1, none⟩), undef, .slice (some ⟨lb, lo, none⟩) n lc, .int .i64 x2, .slice (some ⟨lb, lo, none⟩) n lc, .int .i64 (n : Int), .int .i64 (i2 : Int), .pointer (some ⟨lb, lo + i2, none⟩), undef, .slice (some ⟨lb, lo, none⟩) n lc, .int .i64 x3, .slice (some ⟨lb, lo, none⟩) n lc, .int .i64 (n : Int), .int .i64 (i3 : Int), .pointer (some ⟨lb, lo + i3, none⟩), .string Z, undef, undef, undef, undef, undef, undef, undef, undef, undef, undef, undef, undef, undef, undef, undef, undef, undef, undef, undef, undef, undef, undef, undef, undef, undef, undef, undef, undef, undef, undef, undef, undef, undef, undef, undef, undef, undef, undef, undef, undef, undef, undef, undef, undef, undef, undef, undef, undef, undef, undef, undef, undef, undef, undef, undef, undef, undef, undef, undef, undef, undef, undef, undef, undef, undef, undef], defers := [] } w3.drew := by
          rw [hG]
          refine wpAny_ready (rs := [6, 13]) (by kernel_rfl) (by simp) ?_
          refine AllReady.cons rfl (fun K hK => ?_) ?_
          · go_simp
            refine hK _ _ ?_; clear hK K
            refine wpAny_take (i := 21) (v := .string X) rfl (by kernel_rfl) (by kernel_rfl) (by kernel_rfl) (fun _ _ _ h => h) (Or.inl ⟨by kernel_rfl, by intro w; kernel_rfl⟩) ?_
            exact any_eq hG (by kernel_rfl) (by kernel_rfl) (by kernel_rfl) hs4.out
          refine AllReady.cons rfl (fun K hK => ?_) ?_
          · go_simp
            refine hK _ _ ?_; clear hK K
            exact any_eq hG (by kernel_rfl) (by kernel_rfl) (by kernel_rfl) hs12.out
          exact AllReady.nil
        have hs16 := Lib.hid hs16'
        clear hs16'
        have hs17' : G 6 #[true, true, true, true, true, true, false, true, true, true, true, true, true, false, true, true, true, true, true, true, false, false, false, false] { tmps := #[.slice a t.length cp, .int .i64 x1, .int .i64 x2, .int .i64 x3, undef, undef, undef, undef, .bool false, .bool true, .slice (some ⟨lb, lo, none⟩) n lc, undef, undef, undef, undef, undef, undef, undef, undef, .bool true, .slice a t.length cp, .bool false, .bool false, .slice a t.length cp, .agg #[.int .i64 0, .int .i64 fa], .int .i64 0, .bool false, .bool false, undef, .slice a t.length cp, .slice (some ⟨lb, lo, none⟩) n lc, .slice (some ⟨lb, lo, none⟩) n lc, .int .i64 x1, .slice (some ⟨lb, lo, none⟩) n lc, .int .i64 (n : Int), .int .i64 (i1 : Int), .pointer (some ⟨lb, lo + i1, none⟩), undef, .slice (some ⟨lb, lo, none⟩) n lc, .int .i64 x2, .slice (some ⟨lb, lo, none⟩) n lc, .int .i64 (n : Int), .int .i64 (i2 : Int), .pointer (some ⟨lb, lo + i2, none⟩), undef, .slice (some ⟨lb, lo, none⟩) n lc, .int .i64 x3, .slice (some ⟨lb, lo, none⟩) n lc, .int .i64 (n : Int), .int .i64 (i3 : Int), .pointer (some ⟨lb, lo + i3, none⟩), undef, undef, undef, undef, undef, undef, undef, undef, undef, undef, undef, undef, undef, undef, undef, undef, undef, undef, undef, undef, undef, undef, undef, undef, undef, undef, undef, undef, undef, undef, undef, undef, undef, undef, undef, undef, undef, undef, undef, undef, undef, undef, undef, undef, undef, undef, undef, undef, undef, undef, undef, undef, undef, undef, undef, undef, undef, undef, undef, undef, undef, undef, undef, undef, undef, undef, undef], defers := [] } w3.drew := by
          rw [hG]
          refine wpAny_ready (rs := [6, 13, 20]) (by kernel_rfl) (by simp) ?_
          refine AllReady.cons rfl (fun K hK => ?_) ?_
          · go_simp
            refine hK _ _ ?_; clear hK K
            refine wpAny_take (i := 21) (v := .string X) rfl (by kernel_rfl) (by kernel_rfl) (by kernel_rfl) (fun _ _ _ h => h) (Or.inl ⟨by kernel_rfl, by intro w; kernel_rfl⟩) ?_
            exact any_eq hG (by kernel_rfl) (by kernel_rfl) (by kernel_rfl) hs5.out
          refine AllReady.cons rfl (fun K hK => ?_) ?_
          · go_simp
            refine hK _ _ ?_; clear hK K
            exact any_eq hG (by kernel_rfl) (by kernel_rfl) (by kernel_rfl) hs13.out
          refine AllReady.cons rfl (fun K hK => ?_) ?_
          · go_simp
            refine hK _ _ ?_; clear hK K
            exact any_eq hG (by kernel_rfl) (by kernel_rfl) (by kernel_rfl) hs16.out
          exact AllReady.nil
        have hs17 := Lib.hid hs17'
        clear hs17'
        have hs18' : G 8 #[true, true, true, true, true, true, false, true, true, true, true, true, true, false, true, true, true, true, false, false, false, false, false, false] { tmps := #[.slice a t.length cp, .int .i64 x1, .int .i64 x2, .int .i64 x3, undef, undef, undef, undef, .bool false, .bool true, .slice (some ⟨lb, lo, none⟩) n lc, undef, undef, undef, undef, undef, undef, undef, undef, .bool true, .slice a t.length cp, .bool false, .bool false, .slice a t.length cp, .agg #[.int .i64 0, .int .i64 fa], .int .i64 0, .bool false, .bool false, undef, .slice a t.length cp, .slice (some ⟨lb, lo, none⟩) n lc, .slice (some ⟨lb, lo, none⟩) n lc, .int .i64 x1, .slice (some ⟨lb, lo, none⟩) n lc, .int .i64 (n : Int), .int .i64 (i1 : Int), .pointer (some ⟨lb, lo + i1, none⟩), undef, .slice (some ⟨lb, lo, none⟩) n lc, .int .i64 x2, .slice (some ⟨lb, lo, none⟩) n lc, .int .i64 (n : Int), .int .i64 (i2 : Int), .pointer (some ⟨lb, lo + i2, none⟩), undef, .slice (some ⟨lb, lo, none⟩) n lc, .int .i64 x3, .slice (some ⟨lb, lo, none⟩) n lc, .int .i64 (n : Int), undef, undef, undef, undef, undef, undef, undef, undef, undef, undef, undef, undef, undef, undef, undef, undef, undef, undef, undef, undef, undef, undef, undef, undef, undef, undef, undef, undef, undef, undef, undef, undef, undef, undef, undef, undef, undef, undef, undef, undef, undef, undef, undef, undef, undef, undef, undef, undef, undef, undef, undef, undef, undef, undef, undef, undef, undef, undef, undef, undef, undef, undef, undef, undef, undef, undef, undef, undef, undef], defers := [] } w3.drew := by
          rw [hG]
          refine wpAny_ready (rs := [6, 13, 18]) (by kernel_rfl) (by simp) ?_
          refine AllReady.cons rfl (fun K hK => ?_) ?_
          · go_simp
            refine hK _ _ ?_; clear hK K
            exact any_eq hG (by kernel_rfl) (by kernel_rfl) (by kernel_rfl) hs6.out
          refine AllReady.cons rfl (fun K hK => ?_) ?_
          · go_simp
            refine hK _ _ ?_; clear hK K
            exact any_eq hG (by kernel_rfl) (by kernel_rfl) (by kernel_rfl) hs14.out
          refine AllReady.cons rfl (fun K hK => ?_) ?_
          · go_simp
            go_wp2_with fail
            refine HP3.out.mono ?_
            rintro e w9 ⟨rfl, rfl⟩
            dsimp only
            refine hK _ _ ?_; clear hK K
            refine wpAny_take (i := 19) (v := .pointer (some ⟨lb, lo + i3, none⟩)) rfl (by kernel_rfl) (by kernel_rfl) (by kernel_rfl) (fun _ _ _ h => h) (Or.inl ⟨by kernel_rfl, by intro w; go_simp; try with_reducible rfl⟩) ?_
            exact any_eq hG (by kernel_rfl) (by kernel_rfl) (by kernel_rfl) hs17.out
          exact AllReady.nil
        have hs18 := Lib.hid hs18'
        clear hs18'
        have hs19' : G 9 #[true, true, true, true, true, true, false, true, true, true, true, true, true, false, true, true, true, false, false, false, false, false, false, false] { tmps := #[.slice a t.length cp, .int .i64 x1, .int .i64 x2, .int .i64 x3, undef, undef, undef, undef, .bool false, .bool true, .slice (some ⟨lb, lo, none⟩) n lc, undef, undef, undef, undef, undef, undef, undef, undef, .bool true, .slice a t.length cp, .bool false, .bool false, .slice a t.length cp, .agg #[.int .i64 0, .int .i64 fa], .int .i64 0, .bool false, .bool false, undef, .slice a t.length cp, .slice (some ⟨lb, lo, none⟩) n lc, .slice (some ⟨lb, lo, none⟩) n lc, .int .i64 x1, .slice (some ⟨lb, lo, none⟩) n lc, .int .i64 (n : Int), .int .i64 (i1 : Int), .pointer (some ⟨lb, lo + i1, none⟩), undef, .slice (some ⟨lb, lo, none⟩) n lc, .int .i64 x2, .slice (some ⟨lb, lo, none⟩) n lc, .int .i64 (n : Int), .int .i64 (i2 : Int), .pointer (some ⟨lb, lo + i2, none⟩), undef, .slice (some ⟨lb, lo, none⟩) n lc, .int .i64 x3, .slice (some ⟨lb, lo, none⟩) n lc, undef, undef, undef, undef, undef, undef, undef, undef, undef, undef, undef, undef, undef, undef, undef, undef, undef, undef, undef, undef, undef, undef, undef, undef, undef, undef, undef, undef, undef, undef, undef, undef, undef, undef, undef, undef, undef, undef, undef, undef, undef, undef, undef, undef, undef, undef, undef, undef, undef, undef, undef, undef, undef, undef, undef, undef, undef, undef, undef, undef, undef, undef, undef, undef, undef, undef, undef, undef, undef, undef], defers := [] } w3.drew := by
          rw [hG]
          refine wpAny_ready (rs := [6, 13, 17]) (by kernel_rfl) (by simp) ?_
          refine AllReady.cons rfl (fun K hK => ?_) ?_
          · go_simp
            refine hK _ _ ?_; clear hK K
            exact any_eq hG (by kernel_rfl) (by kernel_rfl) (by kernel_rfl) hs7.out
          refine AllReady.cons rfl (fun K hK => ?_) ?_
          · go_simp
            refine hK _ _ ?_; clear hK K
            exact any_eq hG (by kernel_rfl) (by kernel_rfl) (by kernel_rfl) hs15.out
          refine AllReady.cons rfl (fun K hK => ?_) ?_
          · go_simp
            refine hK _ _ ?_; clear hK K
            exact any_eq hG (by kernel_rfl) (by kernel_rfl) (by kernel_rfl) hs18.out
          exact AllReady.nil
        have hs19 := Lib.hid hs19'
        clear hs19'
        have hs20' : G 10 #[true, true, true, true, true, true, false, true, true, true, true, false, false, false, true, true, true, true, false, false, false, false, false, false] { tmps := #[.slice a t.length cp, .int .i64 x1, .int .i64 x2, .int .i64 x3, undef, undef, undef, undef, .bool false, .bool true, .slice (some ⟨lb, lo, none⟩) n lc, undef, undef, undef, undef, undef, undef, undef, undef, .bool true, .slice a t.length cp, .bool false, .bool false, .slice a t.length cp, .agg #[.int .i64 0, .int .i64 fa], .int .i64 0, .bool false, .bool false, undef, .slice a t.length cp, .slice (some ⟨lb, lo, none⟩) n lc, .slice (some ⟨lb, lo, none⟩) n lc, .int .i64 x1, .slice (some ⟨lb, lo, none⟩) n lc, .int .i64 (n : Int), .int .i64 (i1 : Int), .pointer (some ⟨lb, lo + i1, none⟩), undef, .slice (some ⟨lb, lo, none⟩) n lc, .int .i64 x2, .slice (some ⟨lb, lo, none⟩) n lc, .int .i64 (n : Int), undef, undef, undef, .slice (some ⟨lb, lo, none⟩) n lc, .int .i64 x3, .slice (some ⟨lb, lo, none⟩) n lc, .int .i64 (n : Int), undef, undef, undef, undef, undef, undef, undef, undef, undef, undef, undef, undef, undef, undef, undef, undef, undef, undef, undef, undef, undef, undef, undef, undef, undef, undef, undef, undef, undef, undef, undef, undef, undef, undef, undef, undef, undef, undef, undef, undef, undef, undef, undef, undef, undef, undef, undef, undef, undef, undef, undef, undef, undef, undef, undef, undef, undef, undef, undef, undef, undef, undef, undef, undef, undef, undef, undef, undef, undef], defers := [] } w3.drew := by
          rw [hG]
          refine wpAny_ready (rs := [6, 11]) (by kernel_rfl) (by simp) ?_
          refine AllReady.cons rfl (fun K hK => ?_) ?_
          · go_simp
            refine hK _ _ ?_; clear hK K
            exact any_eq hG (by kernel_rfl) (by kernel_rfl) (by kernel_rfl) hs8.out
          refine AllReady.cons rfl (fun K hK => ?_) ?_
          · go_simp
            go_wp2_with fail
            refine HP2.out.mono ?_
            rintro e w9 ⟨rfl, rfl⟩
            dsimp only
            refine hK _ _ ?_; clear hK K
            refine wpAny_take (i := 12) (v := .pointer (some ⟨lb, lo + i2, none⟩)) rfl (by kernel_rfl) (by kernel_rfl) (by kernel_rfl) (fun _ _ _ h => h) (Or.inl ⟨by kernel_rfl, by intro w; go_simp; try with_reducible rfl⟩) ?_
            exact any_eq hG (by kernel_rfl) (by kernel_rfl) (by kernel_rfl) hs18.out
          exact AllReady.nil
        have hs20 := Lib.hid hs20'
        clear hs20'
        have hs21' : G 11 #[true, true, true, true, true, true, false, true, true, true, true, false, false, false, true, true, true, false, false, false, false, false, false, false] { tmps := #[.slice a t.length cp, .int .i64 x1, .int .i64 x2, .int .i64 x3, undef, undef, undef, undef, .bool false, .bool true, .slice (some ⟨lb, lo, none⟩) n lc, undef, undef, undef, undef, undef, undef, undef, undef, .bool true, .slice a t.length cp, .bool false, .bool false, .slice a t.length cp, .agg #[.int .i64 0, .int .i64 fa], .int .i64 0, .bool false, .bool false, undef, .slice a t.length cp, .slice (some ⟨lb, lo, none⟩) n lc, .slice (some ⟨lb, lo, none⟩) n lc, .int .i64 x1, .slice (some ⟨lb, lo, none⟩) n lc, .int .i64 (n : Int), .int .i64 (i1 : Int), .pointer (some ⟨lb, lo + i1, none⟩), undef, .slice (some ⟨lb, lo, none⟩) n lc, .int .i64 x2, .slice (some ⟨lb, lo, none⟩) n lc, .int .i64 (n : Int), undef, undef, undef, .slice (some ⟨lb, lo, none⟩) n lc, .int .i64 x3, .slice (some ⟨lb, lo, none⟩) n lc, undef, undef, undef, undef, undef, undef, undef, undef, undef, undef, undef, undef, undef, undef, undef, undef, undef, undef, undef, undef, undef, undef, undef, undef, undef, undef, undef, undef, undef, undef, undef, undef, undef, undef, undef, undef, undef, undef, undef, undef, undef, undef, undef, undef, undef, undef, undef, undef, undef, undef, undef, undef, undef, undef, undef, undef, undef, undef, undef, undef, undef, undef, undef, undef, undef, undef, undef, undef, undef, undef], defers := [] } w3.drew := by
          rw [hG]
          refine wpAny_ready (rs := [6, 11, 17]) (by kernel_rfl) (by simp) ?_
          refine AllReady.cons rfl (fun K hK => ?_) ?_
          · go_simp
            refine hK _ _ ?_; clear hK K
            exact any_eq hG (by kernel_rfl) (by kernel_rfl) (by kernel_rfl) hs9.out
          refine AllReady.cons rfl (fun K hK => ?_) ?_
          · go_simp
            go_wp2_with fail
            refine HP2.out.mono ?_
            rintro e w9 ⟨rfl, rfl⟩
            dsimp only
            refine hK _ _ ?_; clear hK K
            refine wpAny_take (i := 12) (v := .pointer (some ⟨lb, lo + i2, none⟩)) rfl (by kernel_rfl) (by kernel_rfl) (by kernel_rfl) (fun _ _ _ h => h) (Or.inl ⟨by kernel_rfl, by intro w; go_simp; try with_reducible rfl⟩) ?_
            exact any_eq hG (by kernel_rfl) (by kernel_rfl) (by kernel_rfl) hs19.out
          refine AllReady.cons rfl (fun K hK => ?_) ?_
          · go_simp
            refine hK _ _ ?_; clear hK K
            exact any_eq hG (by kernel_rfl) (by kernel_rfl) (by kernel_rfl) hs20.out
          exact AllReady.nil
        have hs21 := Lib.hid hs21'
        clear hs21'
        have hs22' : G 11 #[true, true, true, true, true, true, false, true, true, true, false, false, false, false, true, true, true, true, false, false, false, false, false, false] { tmps := #[.slice a t.length cp, .int .i64 x1, .int .i64 x2, .int .i64 x3, undef, undef, undef, undef, .bool false, .bool true, .slice (some ⟨lb, lo, none⟩) n lc, undef, undef, undef, undef, undef, undef, undef, undef, .bool true, .slice a t.length cp, .bool false, .bool false, .slice a t.length cp, .agg #[.int .i64 0, .int .i64 fa], .int .i64 0, .bool false, .bool false, undef, .slice a t.length cp, .slice (some ⟨lb, lo, none⟩) n lc, .slice (some ⟨lb, lo, none⟩) n lc, .int .i64 x1, .slice (some ⟨lb, lo, none⟩) n lc, .int .i64 (n : Int), .int .i64 (i1 : Int), .pointer (some ⟨lb, lo + i1, none⟩), undef, .slice (some ⟨lb, lo, none⟩) n lc, .int .i64 x2, .slice (some ⟨lb, lo, none⟩) n lc, undef, undef, undef, undef, .slice (some ⟨lb, lo, none⟩) n lc, .int .i64 x3, .slice (some ⟨lb, lo, none⟩) n lc, .int .i64 (n : Int), undef, undef, undef, undef, undef, undef, undef, undef, undef, undef, undef, undef, undef, undef, undef, undef, undef, undef, undef, undef, undef, undef, undef, undef, undef, undef, undef, undef, undef, undef, undef, undef, undef, undef, undef, undef, undef, undef, undef, undef, undef, undef, undef, undef, undef, undef, undef, undef, undef, undef, undef, undef, undef, undef, undef, undef, undef, undef, undef, undef, undef, undef, undef, undef, undef, undef, undef, undef, undef], defers := [] } w3.drew := by
          rw [hG]
          refine wpAny_ready (rs := [6, 10]) (by kernel_rfl) (by simp) ?_
          refine AllReady.cons rfl (fun K hK => ?_) ?_
          · go_simp
            refine hK _ _ ?_; clear hK K
            exact any_eq hG (by kernel_rfl) (by kernel_rfl) (by kernel_rfl) hs10.out
          refine AllReady.cons rfl (fun K hK => ?_) ?_
          · go_simp
            refine hK _ _ ?_; clear hK K
            exact any_eq hG (by kernel_rfl) (by kernel_rfl) (by kernel_rfl) hs20.out
          exact AllReady.nil
        have hs22 := Lib.hid hs22'
        clear hs22'
        have hs23' : G 12 #[true, true, true, true, true, true, false, true, true, true, false, false, false, false, true, true, true, false, false, false, false, false, false, false] { tmps := #[.slice a t.length cp, .int .i64 x1, .int .i64 x2, .int .i64 x3, undef, undef, undef, undef, .bool false, .bool true, .slice (some ⟨lb, lo, none⟩) n lc, undef, undef, undef, undef, undef, undef, undef, undef, .bool true, .slice a t.length cp, .bool false, .bool false, .slice a t.length cp, .agg #[.int .i64 0, .int .i64 fa], .int .i64 0, .bool false, .bool false, undef, .slice a t.length cp, .slice (some ⟨lb, lo, none⟩) n lc, .slice (some ⟨lb, lo, none⟩) n lc, .int .i64 x1, .slice (some ⟨lb, lo, none⟩) n lc, .int .i64 (n : Int), .int .i64 (i1 : Int), .pointer (some ⟨lb, lo + i1, none⟩), undef, .slice (some ⟨lb, lo, none⟩) n lc, .int .i64 x2, .slice (some ⟨lb, lo, none⟩) n lc, undef, undef, undef, undef, .slice (some ⟨lb, lo, none⟩) n lc, .int .i64 x3, .slice (some ⟨lb, lo, none⟩) n lc, undef, undef, undef, undef, undef, undef, undef, undef, undef, undef, undef, undef, undef, undef, undef, undef, undef, undef, undef, undef, undef, undef, undef, undef, undef, undef, undef, undef, undef, undef, undef, undef, undef, undef, undef, undef, undef, undef, undef, undef, undef, undef, undef, undef, undef, undef, undef, undef, undef, undef, undef, undef, undef, undef, undef, undef, undef, undef, undef, undef, undef, undef, undef, undef, undef, undef, undef, undef, undef, undef], defers := [] } w3.drew := by
          rw [hG]
          refine wpAny_ready (rs := [6, 10, 17]) (by kernel_rfl) (by simp) ?_
          refine AllReady.cons rfl (fun K hK => ?_) ?_
          · go_simp
            refine hK _ _ ?_; clear hK K
            exact any_eq hG (by kernel_rfl) (by kernel_rfl) (by kernel_rfl) hs11.out
          refine AllReady.cons rfl (fun K hK => ?_) ?_
          · go_simp
            refine hK _ _ ?_; clear hK K
            exact any_eq hG (by kernel_rfl) (by kernel_rfl) (by kernel_rfl) hs21.out
          refine AllReady.cons rfl (fun K hK => ?_) ?_
          · go_simp
            refine hK _ _ ?_; clear hK K
            exact any_eq hG (by kernel_rfl) (by kernel_rfl) (by kernel_rfl) hs22.out
          exact AllReady.nil
        have hs23 := Lib.hid hs23'
        clear hs23'
        have hs24' : G 12 #[true, true, true, true, false, false, false, true, true, true, true, false, false, false, true, true, true, true, false, false, false, false, false, false] { tmps := #[.slice a t.length cp, .int .i64 x1, .int .i64 x2, .int .i64 x3, undef, undef, undef, undef, .bool false, .bool true, .slice (some ⟨lb, lo, none⟩) n lc, undef, undef, undef, undef, undef, undef, undef, undef, .bool true, .slice a t.length cp, .bool false, .bool false, .slice a t.length cp, .agg #[.int .i64 0, .int .i64 fa], .int .i64 0, .bool false, .bool false, undef, .slice a t.length cp, .slice (some ⟨lb, lo, none⟩) n lc, .slice (some ⟨lb, lo, none⟩) n lc, .int .i64 x1, .slice (some ⟨lb, lo, none⟩) n lc, .int .i64 (n : Int), undef, undef, undef, .slice (some ⟨lb, lo, none⟩) n lc, .int .i64 x2, .slice (some ⟨lb, lo, none⟩) n lc, .int .i64 (n : Int), undef, undef, undef, .slice (some ⟨lb, lo, none⟩) n lc, .int .i64 x3, .slice (some ⟨lb, lo, none⟩) n lc, .int .i64 (n : Int), undef, undef, undef, undef, undef, undef, undef, undef, undef, undef, undef, undef, undef, undef, undef, undef, undef, undef, undef, undef, undef, undef, undef, undef, undef, undef, undef, undef, undef, undef, undef, undef, undef, undef, undef, undef, undef, undef, undef, undef, undef, undef, undef, undef, undef, undef, undef, undef, undef, undef, undef, undef, undef, undef, undef, undef, undef, undef, undef, undef, undef, undef, undef, undef, undef, undef, undef, undef, undef], defers := [] } w3.drew := by
          rw [hG]
          refine wpAny_ready (rs := [4]) (by kernel_rfl) (by simp) ?_
          refine AllReady.cons rfl (fun K hK => ?_) ?_
          · go_simp
            go_wp2_with fail
            refine HP1.out.mono ?_
            rintro e w9 ⟨rfl, rfl⟩
            dsimp only
            refine hK _ _ ?_; clear hK K
            refine wpAny_take (i := 5) (v := .pointer (some ⟨lb, lo + i1, none⟩)) rfl (by kernel_rfl) (by kernel_rfl) (by kernel_rfl) (fun _ _ _ h => h) (Or.inl ⟨by kernel_rfl, by intro w; go_simp; try with_reducible rfl⟩) ?_
            exact any_eq hG (by kernel_rfl) (by kernel_rfl) (by kernel_rfl) hs20.out
          exact AllReady.nil
        have hs24 := Lib.hid hs24'
        clear hs24'
        have hs25' : G 13 #[true, true, true, true, false, false, false, true, true, true, true, false, false, false, true, true, true, false, false, false, false, false, false, false] { tmps := #[.slice a t.length cp, .int .i64 x1, .int .i64 x2, .int .i64 x3, undef, undef, undef, undef, .bool false, .bool true, .slice (some ⟨lb, lo, none⟩) n lc, undef, undef, undef, undef, undef, undef, undef, undef, .bool true, .slice a t.length cp, .bool false, .bool false, .slice a t.length cp, .agg #[.int .i64 0, .int .i64 fa], .int .i64 0, .bool false, .bool false, undef, .slice a t.length cp, .slice (some ⟨lb, lo, none⟩) n lc, .slice (some ⟨lb, lo, none⟩) n lc, .int .i64 x1, .slice (some ⟨lb, lo, none⟩) n lc, .int .i64 (n : Int), undef, undef, undef, .slice (some ⟨lb, lo, none⟩) n lc, .int .i64 x2, .slice (some ⟨lb, lo, none⟩) n lc, .int .i64 (n : Int), undef, undef, undef, .slice (some ⟨lb, lo, none⟩) n lc, .int .i64 x3, .slice (some ⟨lb, lo, none⟩) n lc, undef, undef, undef, undef, undef, undef, undef, undef, undef, undef, undef, undef, undef, undef, undef, undef, undef, undef, undef, undef, undef, undef, undef, undef, undef, undef, undef, undef, undef, undef, undef, undef, undef, undef, undef, undef, undef, undef, undef, undef, undef, undef, undef, undef, undef, undef, undef, undef, undef, undef, undef, undef, undef, undef, undef, undef, undef, undef, undef, undef, undef, undef, undef, undef, undef, undef, undef, undef, undef, undef], defers := [] } w3.drew := by
          rw [hG]
          refine wpAny_ready (rs := [4, 17]) (by kernel_rfl) (by simp) ?_
          refine AllReady.cons rfl (fun K hK => ?_) ?_
          · go_simp
            go_wp2_with fail
            refine HP1.out.mono ?_
            rintro e w9 ⟨rfl, rfl⟩
            dsimp only
            refine hK _ _ ?_; clear hK K
            refine wpAny_take (i := 5) (v := .pointer (some ⟨lb, lo + i1, none⟩)) rfl (by kernel_rfl) (by kernel_rfl) (by kernel_rfl) (fun _ _ _ h => h) (Or.inl ⟨by kernel_rfl, by intro w; go_simp; try with_reducible rfl⟩) ?_
            exact any_eq hG (by kernel_rfl) (by kernel_rfl) (by kernel_rfl) hs21.out
          refine AllReady.cons rfl (fun K hK => ?_) ?_
          · go_simp
            refine hK _ _ ?_; clear hK K
            exact any_eq hG (by kernel_rfl) (by kernel_rfl) (by kernel_rfl) hs24.out
          exact AllReady.nil
        have hs25 := Lib.hid hs25'
        clear hs25'
        have hs26' : G 13 #[true, true, true, true, false, false, false, true, true, true, false, false, false, false, true, true, true, true, false, false, false, false, false, false] { tmps := #[.slice a t.length cp, .int .i64 x1, .int .i64 x2, .int .i64 x3, undef, undef, undef, undef, .bool false, .bool true, .slice (some ⟨lb, lo, none⟩) n lc, undef, undef, undef, undef, undef, undef, undef, undef, .bool true, .slice a t.length cp, .bool false, .bool false, .slice a t.length cp, .agg #[.int .i64 0, .int .i64 fa], .int .i64 0, .bool false, .bool false, undef, .slice a t.length cp, .slice (some ⟨lb, lo, none⟩) n lc, .slice (some ⟨lb, lo, none⟩) n lc, .int .i64 x1, .slice (some ⟨lb, lo, none⟩) n lc, .int .i64 (n : Int), undef, undef, undef, .slice (some ⟨lb, lo, none⟩) n lc, .int .i64 x2, .slice (some ⟨lb, lo, none⟩) n lc, undef, undef, undef, undef, .slice (some ⟨lb, lo, none⟩) n lc, .int .i64 x3, .slice (some ⟨lb, lo, none⟩) n lc, .int .i64 (n : Int), undef, undef, undef, undef, undef, undef, undef, undef, undef, undef, undef, undef, undef, undef, undef, undef, undef, undef, undef, undef, undef, undef, undef, undef, undef, undef, undef, undef, undef, undef, undef, undef, undef, undef, undef, undef, undef, undef, undef, undef, undef, undef, undef, undef, undef, undef, undef, undef, undef, undef, undef, undef, undef, undef, undef, undef, undef, undef, undef, undef, undef, undef, undef, undef, undef, undef, undef, undef, undef], defers := [] } w3.drew := by
          rw [hG]
          refine wpAny_ready (rs := [4, 10]) (by kernel_rfl) (by simp) ?_
          refine AllReady.cons rfl (fun K hK => ?_) ?_
          · go_simp
            go_wp2_with fail
            refine HP1.out.mono ?_
            rintro e w9 ⟨rfl, rfl⟩
            dsimp only
            refine hK _ _ ?_; clear hK K
            refine wpAny_take (i := 5) (v := .pointer (some ⟨lb, lo + i1, none⟩)) rfl (by kernel_rfl) (by kernel_rfl) (by kernel_rfl) (fun _ _ _ h => h) (Or.inl ⟨by kernel_rfl, by intro w; go_simp; try with_reducible rfl⟩) ?_
            exact any_eq hG (by kernel_rfl) (by kernel_rfl) (by kernel_rfl) hs22.out
          refine AllReady.cons rfl (fun K hK => ?_) ?_
          · go_simp
            refine hK _ _ ?_; clear hK K
            exact any_eq hG (by kernel_rfl) (by kernel_rfl) (by kernel_rfl) hs24.out
          exact AllReady.nil
        have hs26 := Lib.hid hs26'
        clear hs26'
        have hs27' : G 14 #[true, true, true, true, false, false, false, true, true, true, false, false, false, false, true, true, true, false, false, false, false, false, false, false] { tmps := #[.slice a t.length cp, .int .i64 x1, .int .i64 x2, .int .i64 x3, undef, undef, undef, undef, .bool false, .bool true, .slice (some ⟨lb, lo, none⟩) n lc, undef, undef, undef, undef, undef, undef, undef, undef, .bool true, .slice a t.length cp, .bool false, .bool false, .slice a t.length cp, .agg #[.int .i64 0, .int .i64 fa], .int .i64 0, .bool false, .bool false, undef, .slice a t.length cp, .slice (some ⟨lb, lo, none⟩) n lc, .slice (some ⟨lb, lo, none⟩) n lc, .int .i64 x1, .slice (some ⟨lb, lo, none⟩) n lc, .int .i64 (n : Int), undef, undef, undef, .slice (some ⟨lb, lo, none⟩) n lc, .int .i64 x2, .slice (some ⟨lb, lo, none⟩) n lc, undef, undef, undef, undef, .slice (some ⟨lb, lo, none⟩) n lc, .int .i64 x3, .slice (some ⟨lb, lo, none⟩) n lc, undef, undef, undef, undef, undef, undef, undef, undef, undef, undef, undef, undef, undef, undef, undef, undef, undef, undef, undef, undef, undef, undef, undef, undef, undef, undef, undef, undef, undef, undef, undef, undef, undef, undef, undef, undef, undef, undef, undef, undef, undef, undef, undef, undef, undef, undef, undef, undef, undef, undef, undef, undef, undef, undef, undef, undef, undef, undef, undef, undef, undef, undef, undef, undef, undef, undef, undef, undef, undef, undef], defers := [] } w3.drew := by
          rw [hG]
          refine wpAny_ready (rs := [4, 10, 17]) (by kernel_rfl) (by simp) ?_
          refine AllReady.cons rfl (fun K hK => ?_) ?_
          · go_simp
            go_wp2_with fail
            refine HP1.out.mono ?_
            rintro e w9 ⟨rfl, rfl⟩
            dsimp only
            refine hK _ _ ?_; clear hK K
            refine wpAny_take (i := 5) (v := .pointer (some ⟨lb, lo + i1, none⟩)) rfl (by kernel_rfl) (by kernel_rfl) (by kernel_rfl) (fun _ _ _ h => h) (Or.inl ⟨by kernel_rfl, by intro w; go_simp; try with_reducible rfl⟩) ?_
            exact any_eq hG (by kernel_rfl) (by kernel_rfl) (by kernel_rfl) hs23.out
          refine AllReady.cons rfl (fun K hK => ?_) ?_
          · go_simp
            refine hK _ _ ?_; clear hK K
            exact any_eq hG (by kernel_rfl) (by kernel_rfl) (by kernel_rfl) hs25.out
          refine AllReady.cons rfl (fun K hK => ?_) ?_
          · go_simp
            refine hK _ _ ?_; clear hK K
            exact any_eq hG (by kernel_rfl) (by kernel_rfl) (by kernel_rfl) hs26.out
          exact AllReady.nil
        have hs27 := Lib.hid hs27'
        clear hs27'
        have hs28' : G 13 #[true, true, true, false, false, false, false, true, true, true, true, false, false, false, true, true, true, true, false, false, false, false, false, false] { tmps := #[.slice a t.length cp, .int .i64 x1, .int .i64 x2, .int .i64 x3, undef, undef, undef, undef, .bool false, .bool true, .slice (some ⟨lb, lo, none⟩) n lc, undef, undef, undef, undef, undef, undef, undef, undef, .bool true, .slice a t.length cp, .bool false, .bool false, .slice a t.length cp, .agg #[.int .i64 0, .int .i64 fa], .int .i64 0, .bool false, .bool false, undef, .slice a t.length cp, .slice (some ⟨lb, lo, none⟩) n lc, .slice (some ⟨lb, lo, none⟩) n lc, .int .i64 x1, .slice (some ⟨lb, lo, none⟩) n lc, undef, undef, undef, undef, .slice (some ⟨lb, lo, none⟩) n lc, .int .i64 x2, .slice (some ⟨lb, lo, none⟩) n lc, .int .i64 (n : Int), undef, undef, undef, .slice (some ⟨lb, lo, none⟩) n lc, .int .i64 x3, .slice (some ⟨lb, lo, none⟩) n lc, .int .i64 (n : Int), undef, undef, undef, undef, undef, undef, undef, undef, undef, undef, undef, undef, undef, undef, undef, undef, undef, undef, undef, undef, undef, undef, undef, undef, undef, undef, undef, undef, undef, undef, undef, undef, undef, undef, undef, undef, undef, undef, undef, undef, undef, undef, undef, undef, undef, undef, undef, undef, undef, undef, undef, undef, undef, undef, undef, undef, undef, undef, undef, undef, undef, undef, undef, undef, undef, undef, undef, undef, undef], defers := [] } w3.drew := by
          rw [hG]
          refine wpAny_ready (rs := [3]) (by kernel_rfl) (by simp) ?_
          refine AllReady.cons rfl (fun K hK => ?_) ?_
          · go_simp
            refine hK _ _ ?_; clear hK K
            exact any_eq hG (by kernel_rfl) (by kernel_rfl) (by kernel_rfl) hs24.out
          exact AllReady.nil
        have hs28 := Lib.hid hs28'
        clear hs28'
        have hs29' : G 14 #[true, true, true, false, false, false, false, true, true, true, true, false, false, false, true, true, true, false, false, false, false, false, false, false] { tmps := #[.slice a t.length cp, .int .i64 x1, .int .i64 x2, .int .i64 x3, undef, undef, undef, undef, .bool false, .bool true, .slice (some ⟨lb, lo, none⟩) n lc, undef, undef, undef, undef, undef, undef, undef, undef, .bool true, .slice a t.length cp, .bool false, .bool false, .slice a t.length cp, .agg #[.int .i64 0, .int .i64 fa], .int .i64 0, .bool false, .bool false, undef, .slice a t.length cp, .slice (some ⟨lb, lo, none⟩) n lc, .slice (some ⟨lb, lo, none⟩) n lc, .int .i64 x1, .slice (some ⟨lb, lo, none⟩) n lc, undef, undef, undef, undef, .slice (some ⟨lb, lo, none⟩) n lc, .int .i64 x2, .slice (some ⟨lb, lo, none⟩) n lc, .int .i64 (n : Int), undef, undef, undef, .slice (some ⟨lb, lo, none⟩) n lc, .int .i64 x3, .slice (some ⟨lb, lo, none⟩) n lc, undef, undef, undef, undef, undef, undef, undef, undef, undef, undef, undef, undef, undef, undef, undef, undef, undef, undef, undef, undef, undef, undef, undef, undef, undef, undef, undef, undef, undef, undef, undef, undef, undef, undef, undef, undef, undef, undef, undef, undef, undef, undef, undef, undef, undef, undef, undef, undef, undef, undef, undef, undef, undef, undef, undef, undef, undef, undef, undef, undef, undef, undef, undef, undef, undef, undef, undef, undef, undef, undef], defers := [] } w3.drew := by
          rw [hG]
          refine wpAny_ready (rs := [3, 17]) (by kernel_rfl) (by simp) ?_
          refine AllReady.cons rfl (fun K hK => ?_) ?_
          · go_simp
            refine hK _ _ ?_; clear hK K
            exact any_eq hG (by kernel_rfl) (by kernel_rfl) (by kernel_rfl) hs25.out
          refine AllReady.cons rfl (fun K hK => ?_) ?_
          · go_simp
            refine hK _ _ ?_; clear hK K
            exact any_eq hG (by kernel_rfl) (by kernel_rfl) (by kernel_rfl) hs28.out
          exact AllReady.nil
        have hs29 := Lib.hid hs29'
        clear hs29'
        have hs30' : G 14 #[true, true, true, false, false, false, false, true, true, true, false, false, false, false, true, true, true, true, false, false, false, false, false, false] { tmps := #[.slice a t.length cp, .int .i64 x1, .int .i64 x2, .int .i64 x3, undef, undef, undef, undef, .bool false, .bool true, .slice (some ⟨lb, lo, none⟩) n lc, undef, undef, undef, undef, undef, undef, undef, undef, .bool true, .slice a t.length cp, .bool false, .bool false, .slice a t.length cp, .agg #[.int .i64 0, .int .i64 fa], .int .i64 0, .bool false, .bool false, undef, .slice a t.length cp, .slice (some ⟨lb, lo, none⟩) n lc, .slice (some ⟨lb, lo, none⟩) n lc, .int .i64 x1, .slice (some ⟨lb, lo, none⟩) n lc, undef, undef, undef, undef, .slice (some ⟨lb, lo, none⟩) n lc, .int .i64 x2, .slice (some ⟨lb, lo, none⟩) n lc, undef, undef, undef, undef, .slice (some ⟨lb, lo, none⟩) n lc, .int .i64 x3, .slice (some ⟨lb, lo, none⟩) n lc, .int .i64 (n : Int), undef, undef, undef, undef, undef, undef, undef, undef, undef, undef, undef, undef, undef, undef, undef, undef, undef, undef, undef, undef, undef, undef, undef, undef, undef, undef, undef, undef, undef, undef, undef, undef, undef, undef, undef, undef, undef, undef, undef, undef, undef, undef, undef, undef, undef, undef, undef, undef, undef, undef, undef, undef, undef, undef, undef, undef, undef, undef, undef, undef, undef, undef, undef, undef, undef, undef, undef, undef, undef], defers := [] } w3.drew := by
          rw [hG]
          refine wpAny_ready (rs := [3, 10]) (by kernel_rfl) (by simp) ?_
          refine AllReady.cons rfl (fun K hK => ?_) ?_
          · go_simp
            refine hK _ _ ?_; clear hK K
            exact any_eq hG (by kernel_rfl) (by kernel_rfl) (by kernel_rfl) hs26.out
          refine AllReady.cons rfl (fun K hK => ?_) ?_
          · go_simp
            refine hK _ _ ?_; clear hK K
            exact any_eq hG (by kernel_rfl) (by kernel_rfl) (by kernel_rfl) hs28.out
          exact AllReady.nil
        have hs30 := Lib.hid hs30'
        clear hs30'
        have hs31' : G 15 #[true, true, true, false, false, false, false, true, true, true, false, false, false, false, true, true, true, false, false, false, false, false, false, false] { tmps := #[.slice a t.length cp, .int .i64 x1, .int .i64 x2, .int .i64 x3, undef, undef, undef, undef, .bool false, .bool true, .slice (some ⟨lb, lo, none⟩) n lc, undef, undef, undef, undef, undef, undef, undef, undef, .bool true, .slice a t.length cp, .bool false, .bool false, .slice a t.length cp, .agg #[.int .i64 0, .int .i64 fa], .int .i64 0, .bool false, .bool false, undef, .slice a t.length cp, .slice (some ⟨lb, lo, none⟩) n lc, .slice (some ⟨lb, lo, none⟩) n lc, .int .i64 x1, .slice (some ⟨lb, lo, none⟩) n lc, undef, undef, undef, undef, .slice (some ⟨lb, lo, none⟩) n lc, .int .i64 x2, .slice (some ⟨lb, lo, none⟩) n lc, undef, undef, undef, undef, .slice (some ⟨lb, lo, none⟩) n lc, .int .i64 x3, .slice (some ⟨lb, lo, none⟩) n lc, undef, undef, undef, undef, undef, undef, undef, undef, undef, undef, undef, undef, undef, undef, undef, undef, undef, undef, undef, undef, undef, undef, undef, undef, undef, undef, undef, undef, undef, undef, undef, undef, undef, undef, undef, undef, undef, undef, undef, undef, undef, undef, undef, undef, undef, undef, undef, undef, undef, undef, undef, undef, undef, undef, undef, undef, undef, undef, undef, undef, undef, undef, undef, undef, undef, undef, undef, undef, undef, undef], defers := [] } w3.drew := by
          rw [hG]
          refine wpAny_ready (rs := [3, 10, 17]) (by kernel_rfl) (by simp) ?_
          refine AllReady.cons rfl (fun K hK => ?_) ?_
          · go_simp
            refine hK _ _ ?_; clear hK K
            exact any_eq hG (by kernel_rfl) (by kernel_rfl) (by kernel_rfl) hs27.out
          refine AllReady.cons rfl (fun K hK => ?_) ?_
          · go_simp
            refine hK _ _ ?_; clear hK K
            exact any_eq hG (by kernel_rfl) (by kernel_rfl) (by kernel_rfl) hs29.out
          refine AllReady.cons rfl (fun K hK => ?_) ?_
          · go_simp
            refine hK _ _ ?_; clear hK K
            exact any_eq hG (by kernel_rfl) (by kernel_rfl) (by kernel_rfl) hs30.out
          exact AllReady.nil
        have hs31 := Lib.hid hs31'
        clear hs31'
        refine wpAny_take (i := 0) (v := .slice (some ⟨lb, lo, none⟩) n lc) rfl (by kernel_rfl) (by kernel_rfl) (by kernel_rfl) (fun _ _ _ h => h) (Or.inl ⟨by kernel_rfl, by intro w; kernel_rfl⟩) ?_
        refine wpAny_take (i := 1) (v := .int .i64 x1) rfl (by kernel_rfl) (by kernel_rfl) (by kernel_rfl) (fun _ _ _ h => h) (Or.inl ⟨by kernel_rfl, by intro w; kernel_rfl⟩) ?_
        refine wpAny_take (i := 2) (v := .slice (some ⟨lb, lo, none⟩) n lc) rfl (by kernel_rfl) (by kernel_rfl) (by kernel_rfl) (fun _ _ _ h => h) (Or.inl ⟨by kernel_rfl, by intro w; kernel_rfl⟩) ?_
        refine wpAny_take (i := 7) (v := .slice (some ⟨lb, lo, none⟩) n lc) rfl (by kernel_rfl) (by kernel_rfl) (by kernel_rfl) (fun _ _ _ h => h) (Or.inl ⟨by kernel_rfl, by intro w; kernel_rfl⟩) ?_
        refine wpAny_take (i := 8) (v := .int .i64 x2) rfl (by kernel_rfl) (by kernel_rfl) (by kernel_rfl) (fun _ _ _ h => h) (Or.inl ⟨by kernel_rfl, by intro w; kernel_rfl⟩) ?_
        refine wpAny_take (i := 9) (v := .slice (some ⟨lb, lo, none⟩) n lc) rfl (by kernel_rfl) (by kernel_rfl) (by kernel_rfl) (fun _ _ _ h => h) (Or.inl ⟨by kernel_rfl, by intro w; kernel_rfl⟩) ?_
        refine wpAny_take (i := 14) (v := .slice (some ⟨lb, lo, none⟩) n lc) rfl (by kernel_rfl) (by kernel_rfl) (by kernel_rfl) (fun _ _ _ h => h) (Or.inl ⟨by kernel_rfl, by intro w; kernel_rfl⟩) ?_
        refine wpAny_take (i := 15) (v := .int .i64 x3) rfl (by kernel_rfl) (by kernel_rfl) (by kernel_rfl) (fun _ _ _ h => h) (Or.inl ⟨by kernel_rfl, by intro w; kernel_rfl⟩) ?_
        refine wpAny_take (i := 16) (v := .slice (some ⟨lb, lo, none⟩) n lc) rfl (by kernel_rfl) (by kernel_rfl) (by kernel_rfl) (fun _ _ _ h => h) (Or.inl ⟨by kernel_rfl, by intro w; kernel_rfl⟩) ?_
        exact any_eq hG (by kernel_rfl) (by kernel_rfl) (by kernel_rfl) hs31.out
      case hk =>
        rintro w4 rfl
        have HK4 := Lib.hid HK3.out.drew
        clear cX cY cZ HP1 HP2 HP3 l1 l2 l3 l1I l2I l3I hc1 hc2
        obtain ⟨om, hom⟩ : ∃ om, Tab.meet t X Y = om := ⟨_, rfl⟩
        have HOM := Lib.hid hom
        clear hom
        cases om with
        | none =>
          have hb0 : ((⟨#[]⟩ : ByteArray).toList == (⟨#[]⟩ : ByteArray).toList) = true := beq_yes rfl
          have HS0 := Lib.hid (join_c t a cp X Y w3.drew (HTB.out.kept HK4.out) (tab_kept HT.out HK4.out) (small_short HSH.out))
          rw [join_ok HO.out HX.out HYY.out, HOM.out] at HS0
          unfold joinV at HS0
          simp only [Option.getD_none, Option.isSome_none] at HS0
          go_wp2_with fail
          refine HS0.out.mono ?_
          rintro e w5 ⟨rfl, kk⟩
          have HK5 := Lib.hid (HK4.out.trans kk)
          clear kk HS0
          have HS1 := Lib.hid (join_c t a cp Y X w5 (HTB.out.kept HK5.out) (tab_kept HT.out HK5.out) (small_short HSH.out))
          rw [join_ok HO.out HYY.out HX.out, ← (Tab.ok_valid HO.out).meet_symm X Y, HOM.out] at HS1
          unfold joinV at HS1
          simp only [Option.getD_none, Option.isSome_none] at HS1
          go_wp2_with fail
          refine HS1.out.mono ?_
          rintro e w6 ⟨rfl, kk⟩
          have HK6 := Lib.hid (HK5.out.trans kk)
          clear kk HS1
          cases e1 : Tab.sub t X Z with
          | false =>
            have HSa := Lib.hid (sub_c t a cp X Z w6 (HTB.out.kept HK6.out) (tab_kept HT.out HK6.out) (small_short HSH.out))
            rw [e1] at HSa
            go_wp2_with fail
            refine HSa.out.mono ?_
            rintro e w7 ⟨rfl, kk⟩
            have HK7 := Lib.hid (HK6.out.trans kk)
            clear kk HSa
            go_wp2_with fail
            go_ret
            exact ⟨by first | rfl | simp, HK7.out⟩
          | true =>
            have e2 := join_no HO.out HX.out HYY.out HZ.out HOM.out e1
            have HSa := Lib.hid (sub_c t a cp X Z w6 (HTB.out.kept HK6.out) (tab_kept HT.out HK6.out) (small_short HSH.out))
            rw [e1] at HSa
            go_wp2_with fail
            refine HSa.out.mono ?_
            rintro e w7 ⟨rfl, kk⟩
            have HK7 := Lib.hid (HK6.out.trans kk)
            clear kk HSa
            have HSb := Lib.hid (sub_c t a cp Y Z w7 (HTB.out.kept HK7.out) (tab_kept HT.out HK7.out) (small_short HSH.out))
            rw [e2] at HSb
            go_wp2_with fail
            refine HSb.out.mono ?_
            rintro e w8 ⟨rfl, kk⟩
            have HK8 := Lib.hid (HK7.out.trans kk)
            clear kk HSb
            go_wp2_with fail
            go_ret
            exact ⟨by first | rfl | simp, HK8.out⟩
        | some jn =>
          have hb0 : (jn.toList == jn.toList) = true := beq_yes rfl
          have HJY := Lib.hid (join_yes HO.out HX.out HYY.out HOM.out)
          have HS0 := Lib.hid (join_c t a cp X Y w3.drew (HTB.out.kept HK4.out) (tab_kept HT.out HK4.out) (small_short HSH.out))
          rw [join_ok HO.out HX.out HYY.out, HOM.out] at HS0
          unfold joinV at HS0
          simp only [Option.getD_some, Option.isSome_some] at HS0
          go_wp2_with fail
          refine HS0.out.mono ?_
          rintro e w5 ⟨rfl, kk⟩
          have HK5 := Lib.hid (HK4.out.trans kk)
          clear kk HS0
          have HS1 := Lib.hid (join_c t a cp Y X w5 (HTB.out.kept HK5.out) (tab_kept HT.out HK5.out) (small_short HSH.out))
          rw [join_ok HO.out HYY.out HX.out, ← (Tab.ok_valid HO.out).meet_symm X Y, HOM.out] at HS1
          unfold joinV at HS1
          simp only [Option.getD_some, Option.isSome_some] at HS1
          go_wp2_with fail
          refine HS1.out.mono ?_
          rintro e w6 ⟨rfl, kk⟩
          have HK6 := Lib.hid (HK5.out.trans kk)
          clear kk HS1
          cases e1 : Tab.sub t X Z with
          | false =>
            have HSa := Lib.hid (sub_c t a cp X Z w6 (HTB.out.kept HK6.out) (tab_kept HT.out HK6.out) (small_short HSH.out))
            rw [e1] at HSa
            go_wp2_with fail
            refine HSa.out.mono ?_
            rintro e w7 ⟨rfl, kk⟩
            have HK7 := Lib.hid (HK6.out.trans kk)
            clear kk HSa
            have HSc := Lib.hid (sub_c t a cp X jn w7 (HTB.out.kept HK7.out) (tab_kept HT.out HK7.out) (small_short HSH.out))
            rw [HJY.out.1] at HSc
            go_wp2_with fail
            refine HSc.out.mono ?_
            rintro e w8 ⟨rfl, kk⟩
            have HK8 := Lib.hid (HK7.out.trans kk)
            clear kk HSc
            have HSd := Lib.hid (sub_c t a cp Y jn w8 (HTB.out.kept HK8.out) (tab_kept HT.out HK8.out) (small_short HSH.out))
            rw [HJY.out.2.1] at HSd
            go_wp2_with fail
            refine HSd.out.mono ?_
            rintro e w9 ⟨rfl, kk⟩
            have HK9 := Lib.hid (HK8.out.trans kk)
            clear kk HSd
            go_wp2_with fail
            go_ret
            exact ⟨by first | rfl | simp, HK9.out⟩
          | true =>
            cases e2 : Tab.sub t Y Z with
            | false =>
              have HSa := Lib.hid (sub_c t a cp X Z w6 (HTB.out.kept HK6.out) (tab_kept HT.out HK6.out) (small_short HSH.out))
              rw [e1] at HSa
              go_wp2_with fail
              refine HSa.out.mono ?_
              rintro e w7 ⟨rfl, kk⟩
              have HK7 := Lib.hid (HK6.out.trans kk)
              clear kk HSa
              have HSb := Lib.hid (sub_c t a cp Y Z w7 (HTB.out.kept HK7.out) (tab_kept HT.out HK7.out) (small_short HSH.out))
              rw [e2] at HSb
              go_wp2_with fail
              refine HSb.out.mono ?_
              rintro e w7b ⟨rfl, kk⟩
              have HK7b := Lib.hid (HK7.out.trans kk)
              clear kk HSb
              have HSc := Lib.hid (sub_c t a cp X jn w7b (HTB.out.kept HK7b.out) (tab_kept HT.out HK7b.out) (small_short HSH.out))
              rw [HJY.out.1] at HSc
              go_wp2_with fail
              refine HSc.out.mono ?_
              rintro e w8 ⟨rfl, kk⟩
              have HK8 := Lib.hid (HK7b.out.trans kk)
              clear kk HSc
              have HSd := Lib.hid (sub_c t a cp Y jn w8 (HTB.out.kept HK8.out) (tab_kept HT.out HK8.out) (small_short HSH.out))
              rw [HJY.out.2.1] at HSd
              go_wp2_with fail
              refine HSd.out.mono ?_
              rintro e w9 ⟨rfl, kk⟩
              have HK9 := Lib.hid (HK8.out.trans kk)
              clear kk HSd
              go_wp2_with fail
              go_ret
              exact ⟨by first | rfl | simp, HK9.out⟩
            | true =>
              have e3 := HJY.out.2.2 Z HZ.out e1 e2
              have HSa := Lib.hid (sub_c t a cp X Z w6 (HTB.out.kept HK6.out) (tab_kept HT.out HK6.out) (small_short HSH.out))
              rw [e1] at HSa
              go_wp2_with fail
              refine HSa.out.mono ?_
              rintro e w7 ⟨rfl, kk⟩
              have HK7 := Lib.hid (HK6.out.trans kk)
              clear kk HSa
              have HSb := Lib.hid (sub_c t a cp Y Z w7 (HTB.out.kept HK7.out) (tab_kept HT.out HK7.out) (small_short HSH.out))
              rw [e2] at HSb
              go_wp2_with fail
              refine HSb.out.mono ?_
              rintro e w7b ⟨rfl, kk⟩
              have HK7b := Lib.hid (HK7.out.trans kk)
              clear kk HSb
              have HSc := Lib.hid (sub_c t a cp X jn w7b (HTB.out.kept HK7b.out) (tab_kept HT.out HK7b.out) (small_short HSH.out))
              rw [HJY.out.1] at HSc
              go_wp2_with fail
              refine HSc.out.mono ?_
              rintro e w8 ⟨rfl, kk⟩
              have HK8 := Lib.hid (HK7b.out.trans kk)
              clear kk HSc
              have HSd := Lib.hid (sub_c t a cp Y jn w8 (HTB.out.kept HK8.out) (tab_kept HT.out HK8.out) (small_short HSH.out))
              rw [HJY.out.2.1] at HSd
              go_wp2_with fail
              refine HSd.out.mono ?_
              rintro e w9 ⟨rfl, kk⟩
              have HK9 := Lib.hid (HK8.out.trans kk)
              clear kk HSd
              have HSf := Lib.hid (sub_c t a cp jn Z w9 (HTB.out.kept HK9.out) (tab_kept HT.out HK9.out) (small_short HSH.out))
              rw [e3] at HSf
              go_wp2_with fail
              refine HSf.out.mono ?_
              rintro e w10 ⟨rfl, kk⟩
              have HK10 := Lib.hid (HK9.out.trans kk)
              clear kk HSf
              go_wp2_with fail
              go_ret
              exact ⟨by first | rfl | simp, HK10.out⟩

    · have z1b : (fe == 0) = false := by simp [z1]
      go_wp2_with fail
      go_ret
      exact ⟨rfl, HKc.out⟩

end Go.Proofs.YtgnplgcidindkaaDoor
