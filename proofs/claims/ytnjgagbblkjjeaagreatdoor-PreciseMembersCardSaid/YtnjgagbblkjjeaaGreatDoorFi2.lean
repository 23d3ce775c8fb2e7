/- The contract of table.Fields. -/
import Derived.Test.YtnjgagbblkjjeaaGreatDoorFie
set_option linter.unusedSimpArgs false
set_option linter.unusedVariables false
set_option maxRecDepth 100000
namespace Go.Proofs.YtnjgagbblkjjeaaGreatDoor
open Go.ChangeShapes Go.WideShapes Go.ChangeAt Go.RowKit Go.Shelf
attribute [local go_sem] Oper.semAt_some

set_option maxHeartbeats 2000000 in
theorem fields_c (a : Option Addr) (c : Nat) (t : List Tab.C) (s : ByteArray) (w : World) (hT : TabAt w (.slice a t.length c) t) (hS : Small t) :
    Calls Tryz.prog 48 #[.slice a t.length c, .string s] w fun e w' => ∃ v, e = .returned v ∧ w'.ownsRow w.heap.size 50 2 v (Tab.fields t s).length ((Tab.fields t s).flatMap vCells) ∧ Kept w w' := by
  obtain ⟨i0, hi, hz0, hzz1, hzz2⟩ := info_parts info_var
  have ht := hS.len
  refine (callsIn_wide (n := 3)).1 (callsIn_of_wp_marks Tryz.func48 rfl trivial (wpIn_wide.2 ?_) rfl)
  simp only [Tryz.ntmps48, List.size_toArray, List.length_cons, List.length_nil, Nat.reduceAdd, Nat.reduceSub, Array.replicate_succ, Array.replicate_zero, List.push_toArray, List.append_toArray, List.nil_append, List.cons_append]
  have HT := Lib.hid hT
  clear hT
  go_wp2_with fail
  have hk1 : Kept w (w.alloc (.cells #[.slice none 0 0] 43)) := (Kept.refl w).alloc _
  have hv1 := Boxed.new w 43 (.slice none 0 0)
  obtain ⟨W1, hW1⟩ : ∃ W1, w.alloc (.cells #[.slice none 0 0] 43) = W1 := ⟨_, rfl⟩
  have hs1 : w.heap.size + 1 ≤ W1.heap.size := by rw [← hW1]; simp
  rw [hW1] at hk1 hv1 ⊢
  have HK1 := Lib.hid hk1
  have HV0 := Lib.hid hv1
  clear hk1 hv1
  refine (line_lineC a c t s _).mono ?_
  rintro e w3 ⟨rfl, hw3⟩
  have hk3 : Kept W1 w3 := by rw [hw3]; exact ((Kept.refl W1).alloc _).alloc _
  have hs3 : W1.heap.size + 1 + 1 ≤ w3.heap.size := by rw [hw3]; simp
  have hb1 : Blk w3 W1.heap.size 22 #[.slice a t.length c] := by rw [hw3]; exact (Blk.new _ _ _).alloc _
  have hb2 : Blk w3 (W1.heap.size + 1) 9 #[.string s] := by
    rw [hw3]
    have := Blk.new (W1.alloc (.cells #[.slice a t.length c] 22)) 9 #[.string s]
    simpa using this
  have HC := Lib.hid (collect_c a c t s W1 w3 W1.heap.size (W1.heap.size + 1) (tab_kept HT.out HK1.out) ht hk3 hb1 hb2 (by omega) (Nat.le_refl _) (by omega))
  clear hk3 hb1 hb2 hw3
  go_wp2_with fail
  refine HC.out.mono ?_
  rintro e w4 ⟨v, rfl, hrow, hk4⟩
  clear HC
  have hcs : ∃ a n c, v = .slice a n c := hrow.2.elim (fun h => ⟨none, 0, 0, h.1⟩) (fun ⟨g, cap, _, h, _⟩ => ⟨_, _, _, h⟩)
  have HR4 := Lib.hid hrow
  have HK4 := Lib.hid hk4
  clear hrow hk4
  obtain ⟨va, vn, vc, hv⟩ := hcs
  subst hv
  go_wp2_with fail
  refine (back_lineC _ w4 ⟨_, _, _, rfl⟩).mono ?_
  rintro e W5 ⟨rfl, hW5⟩
  have hs5 : w4.heap.size + 1 ≤ W5.heap.size := by rw [hW5]; simp
  have h14 := HK4.out.size
  have hk5 : Kept W1 W5 := by rw [hW5]; exact HK4.out.alloc _
  have hb5 : Blk W5 w4.heap.size 121 #[.slice va vn vc] := by rw [hW5]; exact Blk.new _ _ _
  have hr5 : W5.ownsRow (w3.heap.size + 4) 111 1 (.slice va vn vc) (Tab.line t s).length ((Tab.line t s).map (elC a)) := by rw [hW5]; exact HR4.out.alloc _
  have hv5 : Blk W5 w.heap.size 43 #[.slice none 0 0] := Blk.kept (cs := #[.slice none 0 0]) HV0.out hk5
  have HK5 := Lib.hid (HK1.out.trans hk5)
  clear hW5 hk5
  have HB5 := Lib.hid hb5
  have HR5 := Lib.hid hr5
  have HV5 := Lib.hid hv5
  clear hb5 hr5 hv5
  go_wp2_with fail
  have hb5 := HB5.out
  have hr5 := HR5.out
  have hv5 := HV5.out
  refine wpIn_wide.1 (wpIn_range_back (w0 := w) (Bb := w4.heap.size) (base := w3.heap.size + 4) a c t s (· = w.heap.size) rfl HT.out ht hb5 hr5 (fun k e => by subst e; omega) rfl
    (FieI t w.heap.size (W5.heap.size + 2) W5) (fun _ _ _ => False) ?hI (fun _ _ _ _ h _ => h) ⟨⟨_, hv5, World.ownsRow_nil _ _ _ _⟩, Only.refl _ _⟩
    (fun y => { tmps := #[.slice a t.length c, .string s, undef, undef, .slice none 0 0, .pointer (some ⟨w.heap.size, 0, none⟩), undef, elC a y.1, .slice a t.length c, .string s, .func (.func 137) #[] #[.pointer (some ⟨W1.heap.size, 0, none⟩), .pointer (some ⟨W1.heap.size + 1, 0, none⟩)], .slice va vn vc, .func (.func 143) #[] #[.pointer (some ⟨w4.heap.size, 0, none⟩)], .int .i64 y.2, elC a y.1, undef, undef, undef, undef, undef, undef, undef], defers := [] }) ?assign ?body ?done ?stop)
  case hI =>
    rintro pre A B ⟨⟨v, h1, h2⟩, h4⟩ ho
    exact ⟨⟨v, Blk.only (cs := #[v]) h1 ho (by omega), owns_only h2 ho (fun g hg => by omega)⟩, h4.trans' ho fun k hk h => by omega⟩
  case assign =>
    intro l i W K hK
    gi_wp2
    exact hK
  case body =>
    rintro l pre i k b o W hl _ ⟨⟨v, hv, hrow⟩, hO⟩ hsize hpre hi' rfl hcl
    have hKp : Kept w W := HK5.out.onlyS hO (fun k e => by omega)
    have hc := Blk.cell (cs := #[v]) hv 0
    simp at hc
    obtain ⟨_, _, ⟨u, hc0, hu⟩, _⟩ := hcl.kept hKp
    have hL := fldsOf_le hS hpre
    rw [fldsOf_snoc, List.length_append] at hL
    have HL := Lib.hid hL
    have HR := Lib.hid (show W.drew.ownsRow (W5.heap.size + 2) 50 2 v (fldsOf t pre).length ((fldsOf t pre).flatMap vCells) from hrow)
    have HS := Lib.hid (show Src Tryz.prog 2 43 u (Tab.nth t i).fields.length ((Tab.nth t i).fields.flatMap vCells) W.drew from src_vars (vars_kept hu (Kept.refl W).drew))
    have HV := Lib.hid (show Blk W.drew w.heap.size 43 #[v] from hv)
    have HZ := Lib.hid (show W5.heap.size + 2 ≤ W.drew.heap.size from hsize)
    have HO0 := Lib.hid (show Only (fun k => k = w.heap.size ∨ W5.heap.size + 2 ≤ k) W W.drew from (Only.refl _ W).drew)
    have HK := Lib.hid hO
    have HBR := Lib.hid (show w.heap.size < W5.heap.size by omega)
    obtain ⟨ua, un, uc, rfl⟩ : ∃ a n c, u = .slice a n c := by obtain ⟨a, c, e, _⟩ := hu; exact ⟨_, _, _, e⟩
    obtain ⟨va', vn', vc', rfl⟩ := owns_slice hrow
    simp only [elC, evC, Option.map_some]
    clear hv hrow hKp hcl hpre hu hO hb5 hr5 hv5 hL
    gi_wp2
    refine wpIn_region_of_any (by kernel_rfl) (by kernel_rfl) (by rintro ⟨_, _, h⟩; exact h) ?_
    · change wpAny _ _ _ _ _ _ _ (World.drew _)
      refine wpAny_take (i := 1) (v := ?_) rfl (by kernel_rfl) (by kernel_rfl) (by kernel_rfl) (fun _ _ _ h => h) (Or.inl ⟨by rfl, ?_⟩) ?_
      rotate_left
      · intro w; go_simp; try with_reducible rfl
      refine wpAny_take (i := 2) (v := ?_) rfl (by kernel_rfl) (by kernel_rfl) (by kernel_rfl) (fun _ _ _ h => h) (Or.inl ⟨by rfl, ?_⟩) ?_
      rotate_left
      · intro w; go_simp; try with_reducible rfl
      refine wpAny_take (i := 3) (v := ?_) rfl (by kernel_rfl) (by kernel_rfl) (by kernel_rfl) (fun _ _ _ h => h) (Or.inl ⟨by rfl, ?_⟩) ?_
      rotate_left
      · intro w; go_simp; try with_reducible rfl
      refine wpAny_ready (rs := [0, 4]) (by kernel_rfl) (by simp) ?_
      refine AllReady.cons rfl (fun K hK => ?_) ?_
      · go_simp
        refine hK _ _ ?_; clear hK K
        refine wpAny_ready (rs := [4]) (by kernel_rfl) (by simp) ?_
        refine AllReady.cons rfl (fun K hK => ?_) ?_
        · go_simp
          refine hK _ _ ?_; clear hK K
          refine wpAny_ready (rs := [5]) (by kernel_rfl) (by simp) ?_
          refine AllReady.cons rfl (fun K hK => ?_) ?_
          · refine step_apk rfl (.tmp 15) (.tmp 19) 43 43 rfl (W5.heap.size + 2) 2 50 i0 _ 32 Tryz.underlying43 hi hz0 hzz1 hzz2 rfl rfl HR.out rfl HS.out (by unfold maxLen; have := HL.out; omega) (by have := HL.out; omega) HZ.out ?_
            intro v' w1 hown' hgrow _ _
            have hv1 : Blk w1 w.heap.size 43 #[.slice va' vn' vc'] := HV.out.grownBy hgrow (ne_row_blk HV.out (by decide) HR.out)
            have hc1 := hv1.cell 0
            have hf1 := hv1.frozen 0
            have HO := Lib.hid (app_only HO0.out HR.out hgrow HZ.out)
            have HV1 := Lib.hid hv1
            have HW := Lib.hid hown'
            obtain ⟨av', nv', cv', rfl⟩ := owns_slice hown'
            simp at hc1
            clear hv1 hown' hgrow
            refine hK _ _ ?_; clear hK K
            refine wpAny_ready (rs := [6]) (by kernel_rfl) (by simp) ?_
            refine AllReady.cons rfl (fun K hK => ?_) ?_
            · go_simp
              refine hK _ _ ?_; clear hK K
              refine wpAny_done (by kernel_rfl) ?_ _
              exact fie_end (y := (i, k)) HO.out HV1.out HW.out HK.out HBR.out (by omega)
            exact AllReady.nil
          exact AllReady.nil
        exact AllReady.nil
      refine AllReady.cons rfl (fun K hK => ?_) ?_
      · go_simp
        refine hK _ _ ?_; clear hK K
        refine wpAny_ready (rs := [0]) (by kernel_rfl) (by simp) ?_
        refine AllReady.cons rfl (fun K hK => ?_) ?_
        · go_simp
          refine hK _ _ ?_; clear hK K
          refine wpAny_ready (rs := [5]) (by kernel_rfl) (by simp) ?_
          refine AllReady.cons rfl (fun K hK => ?_) ?_
          · refine step_apk rfl (.tmp 15) (.tmp 19) 43 43 rfl (W5.heap.size + 2) 2 50 i0 _ 32 Tryz.underlying43 hi hz0 hzz1 hzz2 rfl rfl HR.out rfl HS.out (by unfold maxLen; have := HL.out; omega) (by have := HL.out; omega) HZ.out ?_
            intro v' w1 hown' hgrow _ _
            have hv1 : Blk w1 w.heap.size 43 #[.slice va' vn' vc'] := HV.out.grownBy hgrow (ne_row_blk HV.out (by decide) HR.out)
            have hc1 := hv1.cell 0
            have hf1 := hv1.frozen 0
            have HO := Lib.hid (app_only HO0.out HR.out hgrow HZ.out)
            have HV1 := Lib.hid hv1
            have HW := Lib.hid hown'
            obtain ⟨av', nv', cv', rfl⟩ := owns_slice hown'
            simp at hc1
            clear hv1 hown' hgrow
            refine hK _ _ ?_; clear hK K
            refine wpAny_ready (rs := [6]) (by kernel_rfl) (by simp) ?_
            refine AllReady.cons rfl (fun K hK => ?_) ?_
            · go_simp
              refine hK _ _ ?_; clear hK K
              refine wpAny_done (by kernel_rfl) ?_ _
              exact fie_end (y := (i, k)) HO.out HV1.out HW.out HK.out HBR.out (by omega)
            exact AllReady.nil
          exact AllReady.nil
        exact AllReady.nil
      exact AllReady.nil
  case done =>
    rintro D W hD ⟨⟨v, hv, hrow⟩, hO⟩ hd
    rw [fldsOf_all] at hrow
    have hKp : Kept w W := HK5.out.onlyS hO (fun k e => by omega)
    have HD := Lib.hid hD
    clear hD
    have hc := Blk.cell (cs := #[v]) hv 0
    simp at hc
    have HO := Lib.hid (show Only (· = D) W (W.putObj D (.deferred none)) from Only.putObj (Only.refl (· = D) W) (.inl rfl) _)
    have HR := Lib.hid hrow
    have HK := Lib.hid hKp
    obtain ⟨va', vn', vc', rfl⟩ := owns_slice hrow
    clear hrow hv hO hKp hb5 hr5 hv5
    go_wp2
    refine ⟨by simp, .inl ⟨_, _, rfl, run_takeDeferred hd, ?_⟩⟩
    exact ⟨_, results_tmp rfl _ _ _, _, rfl, owns_base (owns_only HR.out HO.out (by intro g hg e; have := HD.out; omega)) (by omega), HK.out.onlyS HO.out (by intro k e; have := HD.out; omega)⟩
  case stop =>
    rintro D c pre W _ _ h _
    exact h.elim

end Go.Proofs.YtnjgagbblkjjeaaGreatDoor
