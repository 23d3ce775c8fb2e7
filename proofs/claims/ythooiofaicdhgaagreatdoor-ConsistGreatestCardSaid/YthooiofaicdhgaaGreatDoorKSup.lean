/- The contract of table.Supers. -/
import Derived.Test.YthooiofaicdhgaaGreatDoorKLnr
import Derived.Test.YthooiofaicdhgaaGreatDoorKApk
set_option linter.unusedSimpArgs false
set_option linter.unusedVariables false
set_option maxRecDepth 100000
namespace Go.Proofs.YthooiofaicdhgaaGreatDoor
open Go.ChangeShapes Go.WideShapes Go.ChangeAt Go.RowKit Go.Shelf
attribute [local go_sem] Oper.semAt_some
/-- Within the loop: the names so far. -/
def SupI (t : List Tab.C) (w : World) (pre : List Nat) (W : World) : Prop :=
 (∃ v, Boxed W w.heap.size 28 v ∧ W.ownsRow (w.heap.size + 6) 9 1 v pre.length (pre.map fun i => Value.string (Tab.nth t i).name) ∧ (v = .slice none 0 0 ↔ pre = [])) ∧ Kept w W ∧ w.heap.size + 3 ≤ W.heap.size
theorem sup_end {t : List Tab.C} {w W0 W w1 : World} {pre : List Nat} {i g cap : Nat} {v : Value} (hsz : W0.heap.size = w.heap.size + 3) (hO : Only (fun k => k = w.heap.size ∨ w.heap.size + 6 ≤ k) W w1)
  (hV : Blk w1 w.heap.size 28 #[v]) (hW : w1.ownsRow (w.heap.size + 6) 9 1 (.slice (some ⟨g, 0, none⟩) (pre.length + 1) cap) (pre.length + 1) ((pre.map fun i => Value.string (Tab.nth t i).name) ++ [.string (Tab.nth t i).name])) (hK : Kept w W) (hB : w.heap.size + 6 ≤ W.heap.size) :
  Only (fun k => k = w.heap.size ∨ W0.heap.size + 3 ≤ k) W (w1.setCell ⟨w.heap.size, 0, none⟩ (.slice (some ⟨g, 0, none⟩) (pre.length + 1) cap)) ∧ SupI t w (pre ++ [i]) (w1.setCell ⟨w.heap.size, 0, none⟩ (.slice (some ⟨g, 0, none⟩) (pre.length + 1) cap)) := by
 have hO2 := hO.setCell (p := ⟨w.heap.size, 0, none⟩) (.inl (.inl rfl)) (.slice (some ⟨g, 0, none⟩) (pre.length + 1) cap)
 refine ⟨hO2.mono fun k _ h => h.imp id fun e => by omega, ⟨_, hV.put 0 _, ?_, by simp⟩, hK.onlyS hO2 (fun k h => by omega), by have := hO2.size; omega⟩
 have := owns_only hW ((Only.refl (· = w.heap.size) w1).put 0 (.slice (some ⟨g, 0, none⟩) (pre.length + 1) cap)) (fun g hg => by omega)
 simpa using this
theorem sup_fin {t : List Tab.C} {n₁ : Nat} {W : World} {l : List Nat} {v : Value} (h : W.ownsRow n₁ 9 1 v l.length (l.map fun i => Value.string (Tab.nth t i).name)) :
  ∀ {S : Nat → Prop} (w' : World), Only S W w' → (∀ g, n₁ ≤ g → ¬ S g) → Row 1 (fun w b o x => w.cell? ⟨b, o, none⟩ = some (.string x)) w' v (l.map fun i => (Tab.nth t i).name) := by
 intro S w' hO hS
 have h' := owns_only h hO hS
 rcases h'.2 with ⟨rfl, hl0⟩ | ⟨g, cap, cur, rfl, hg1, hg2, hg3, hg4, hg5, hg6⟩
 ·obtain rfl : l = [] := List.eq_nil_of_length_eq_zero hl0
  exact Row.nil
 ·refine ⟨_, cap, by simp, by simpa using hg3, hg4, fun i x hx => ⟨g, 0, rfl, ?_⟩⟩
  have := h'.cells (g := g) rfl i (.string x) (by
   rw [List.getElem?_map] at hx ⊢
   cases e : l[i]? with
   | none => rw [e] at hx; cases hx
   | some k => rw [e] at hx; cases hx; rfl)
  rw [addr_plain] at this
  simpa using this
set_option maxHeartbeats 2000000 in
theorem supers_o (a : Option Addr) (c : Nat) (t : List Tab.C) (s : ByteArray) (w : World) (hT : TabAt w (.slice a t.length c) t) (ht : t.length ≤ 1000) :
  Calls Tryz.prog 129 #[.slice a t.length c, .string s] w fun e w' => ∃ v, e = .returned v ∧ Row 1 (fun w b o x => w.cell? ⟨b, o, none⟩ = some (.string x)) w' v (Tab.supers t s) ∧ w'.ownsRow w.heap.size 9 1 v (Tab.line t s).length ((Tab.line t s).map fun i => Value.string (Tab.nth t i).name) ∧ Kept w w' := by
 obtain ⟨i0, hi, hz0, hzz1, hzz2⟩ := info_parts info_str
 refine (callsIn_wide (n := 3)).1 (callsIn_of_wp_marks Tryz.func129 rfl trivial (wpIn_wide.2 ?_) rfl)
 simp only [Tryz.ntmps129, List.size_toArray, List.length_cons, List.length_nil, Nat.reduceAdd, Nat.reduceSub, Array.replicate_succ, Array.replicate_zero, List.push_toArray, List.append_toArray, List.nil_append, List.cons_append]
 go_wp2_with fail
 refine (line_lineC a c t s _).mono ?_
 rintro e w1 ⟨rfl, rfl⟩
 go_wp2_with fail
 have hk0 : Kept w (((w.alloc (.cells #[.slice none 0 0] 28)).alloc (.cells #[.slice a t.length c] 22)).alloc (.cells #[.string s] 9)) := (((Kept.refl w).alloc _).alloc _).alloc _
 have b0 := ((Boxed.new w 28 (.slice none 0 0)).alloc (.cells #[.slice a t.length c] 22)).alloc (.cells #[.string s] 9)
 have b1 := (Blk.new (w.alloc (.cells #[.slice none 0 0] 28)) 22 #[.slice a t.length c]).alloc (.cells #[.string s] 9)
 have b2 := Blk.new ((w.alloc (.cells #[.slice none 0 0] 28)).alloc (.cells #[.slice a t.length c] 22)) 9 #[.string s]
 simp only [World.size_alloc] at b1 b2
 obtain ⟨W0, hW0⟩ : ∃ W0, ((w.alloc (.cells #[.slice none 0 0] 28)).alloc (.cells #[.slice a t.length c] 22)).alloc (.cells #[.string s] 9) = W0 := ⟨_, rfl⟩
 have hsz : W0.heap.size = w.heap.size + 3 := by rw [← hW0]; simp
 rw [hW0] at hk0 b0 b1 b2 ⊢
 refine wpIn_wide.1 (wpIn_range_line (w0 := w) (bt := w.heap.size + 1) (bn := w.heap.size + 1 + 1) a c t s (· = w.heap.size) rfl hT ht hk0 b1 b2 (by omega) (by omega) (by omega) (fun k e => by subst e; omega) rfl
  (SupI t w) (fun _ _ _ => False) ?hI (fun _ _ _ _ h _ => h) ⟨⟨_, b0, World.ownsRow_nil _ _ _ _, by simp⟩, hk0, by omega⟩
  (fun i => { tmps := #[.slice a t.length c, .string s, undef, undef, .slice none 0 0, .pointer (some ⟨w.heap.size, 0, none⟩), elC a i, .slice a t.length c, .string s, .func (.func 165) #[] #[.pointer (some ⟨w.heap.size + 1, 0, none⟩), .pointer (some ⟨w.heap.size + 1 + 1, 0, none⟩)], elC a i, undef, undef, undef, undef, undef, undef, undef, undef], defers := [] }) ?assign ?body ?done ?stop)
 case hI =>
  rintro pre A B ⟨⟨v, h1, h2, h3⟩, h4, h5⟩ ho
  exact ⟨⟨v, Blk.only (cs := #[v]) h1 ho (by omega), owns_only h2 ho (fun g hg => by omega), h3⟩, h4.onlyS ho (fun k h => by omega), Nat.le_trans h5 ho.size⟩
 case assign =>
  intro l i W K hK
  gi_wp2
  exact hK
 case body =>
  rintro l pre i b o W hl _ ⟨⟨v, hv, hrow, hnil⟩, hKp, _⟩ hsize hpre hi' rfl hcl
  have hc := hv.cell
  obtain ⟨hc0, _⟩ := hcl.kept hKp
  have hlen : pre.length ≤ 1000 := by
   have h1 := hpre.length_le
   have h2 := Tab.line_len t s
   simp at h1
   omega
  have HR := Lib.hid (show (W.drew.alloc (.cells #[.string (Tab.nth t i).name] 9)).ownsRow (w.heap.size + 6) 9 1 v pre.length (pre.map fun i => Value.string (Tab.nth t i).name) from owns_only hrow (((Only.refl (fun _ => False) W).drew).alloc _) (fun _ _ h => h))
  have HS := Lib.hid (Src.ofSlice (P := Tryz.prog) (size := 1) (tx := 28) (W.drew.alloc (.cells #[.string (Tab.nth t i).name] 9)) Tryz.underlying28 ⟨W.heap.size, 0, none⟩ 1 1 [.string (Tab.nth t i).name] rfl (cell_one_new W.drew _ _) (by simp [Value.oneCell']))
  have HV := Lib.hid (show Blk (W.drew.alloc (.cells #[.string (Tab.nth t i).name] 9)) w.heap.size 28 #[v] from (show Blk W.drew w.heap.size 28 #[v] from hv).alloc _)
  have hca := (show Blk (W.alloc (.cells #[.string (Tab.nth t i).name] 9)) w.heap.size 28 #[v] from (show Blk W w.heap.size 28 #[v] from hv).alloc _).cell 0
  simp at hca
  have HZ := Lib.hid (show w.heap.size + 6 ≤ (W.drew.alloc (.cells #[.string (Tab.nth t i).name] 9)).heap.size by simp; omega)
  have HO0 := Lib.hid (show Only (fun k => k = w.heap.size ∨ w.heap.size + 6 ≤ k) W (W.drew.alloc (.cells #[.string (Tab.nth t i).name] 9)) from ((Only.refl _ W).drew).alloc _)
  have HN := Lib.hid (show w.heap.size + 6 ≤ W.heap.size by omega)
  have HK := Lib.hid hKp
  have HB := Lib.hid (show w.heap.size + 6 ≤ W.heap.size by omega)
  simp only [elC, evC, Option.map_some]
  clear hv hrow hnil hKp hcl b0 b1 b2 hk0 hT hpre
  gi_wp2
  refine wpIn_region_of_any (by kernel_rfl) (by kernel_rfl) (by rintro ⟨_, _, h⟩; exact h) ?_
  ·change wpAny _ _ _ _ _ _ _ (World.drew _)
   refine wpAny_take (i := 1) (v := ?_) rfl (by kernel_rfl) (by kernel_rfl) (by kernel_rfl) (fun _ _ _ h => h) (Or.inl ⟨by rfl, ?_⟩) ?_
   rotate_left
   ·intro w; go_simp; try with_reducible rfl
   refine wpAny_take (i := 2) (v := ?_) rfl (by kernel_rfl) (by kernel_rfl) (by kernel_rfl) (fun _ _ _ h => h) (Or.inl ⟨by rfl, ?_⟩) ?_
   rotate_left
   ·intro w; go_simp; try with_reducible rfl
   refine wpAny_take (i := 3) (v := ?_) rfl (by kernel_rfl) (by kernel_rfl) (by kernel_rfl) (fun _ _ _ h => h) (Or.inl ⟨by rfl, ?_⟩) ?_
   rotate_left
   ·intro w; go_simp; try with_reducible rfl
   refine wpAny_ready (rs := [0, 4]) (by kernel_rfl) (by simp) ?_
   refine AllReady.cons rfl (fun K hK => ?_) ?_
   ·go_simp
    refine hK _ _ ?_; clear hK K
    refine wpAny_ready (rs := [4]) (by kernel_rfl) (by simp) ?_
    refine AllReady.cons rfl (fun K hK => ?_) ?_
    ·go_simp
     refine hK _ _ ?_; clear hK K
     refine wpAny_ready (rs := [5]) (by kernel_rfl) (by simp) ?_
     refine AllReady.cons rfl (fun K hK => ?_) ?_
     ·go_simp
      refine hK _ _ ?_; clear hK K
      refine wpAny_ready (rs := [6]) (by kernel_rfl) (by simp) ?_
      refine AllReady.cons rfl (fun K hK => ?_) ?_
      ·refine step_apk rfl (.tmp 11) (.tmp 16) 28 28 rfl (w.heap.size + 6) 1 9 i0 _ 16 Tryz.underlying28 hi hz0 hzz1 hzz2 rfl rfl HR.out rfl HS.out (by unfold maxLen; omega) (by omega) HZ.out ?_
       intro v' w1 hown' hgrow _ _
       obtain ⟨g', cap', rfl⟩ := ownsRow_succ hown'
       have hv1 : Blk w1 w.heap.size 28 #[v] := HV.out.grownBy hgrow (ne_row_blk HV.out (by decide) HR.out)
       have hc1 := hv1.cell 0
       have hf1 := hv1.frozen 0
       have HO := Lib.hid (app_only HO0.out HR.out hgrow HN.out)
       have HV1 := Lib.hid hv1
       have HW := Lib.hid hown'
       simp at hc1
       clear hv1 hown' hgrow
       refine hK _ _ ?_; clear hK K
       refine wpAny_ready (rs := [7]) (by kernel_rfl) (by simp) ?_
       refine AllReady.cons rfl (fun K hK => ?_) ?_
       ·go_simp
        refine hK _ _ ?_; clear hK K
        refine wpAny_done (by kernel_rfl) ?_ _
        exact sup_end hsz HO.out HV1.out HW.out HK.out HB.out
       exact AllReady.nil
      exact AllReady.nil
     exact AllReady.nil
    exact AllReady.nil
   refine AllReady.cons rfl (fun K hK => ?_) ?_
   ·go_simp
    refine hK _ _ ?_; clear hK K
    refine wpAny_ready (rs := [0, 5]) (by kernel_rfl) (by simp) ?_
    refine AllReady.cons rfl (fun K hK => ?_) ?_
    ·go_simp
     refine hK _ _ ?_; clear hK K
     refine wpAny_ready (rs := [5]) (by kernel_rfl) (by simp) ?_
     refine AllReady.cons rfl (fun K hK => ?_) ?_
     ·go_simp
      refine hK _ _ ?_; clear hK K
      refine wpAny_ready (rs := [6]) (by kernel_rfl) (by simp) ?_
      refine AllReady.cons rfl (fun K hK => ?_) ?_
      ·refine step_apk rfl (.tmp 11) (.tmp 16) 28 28 rfl (w.heap.size + 6) 1 9 i0 _ 16 Tryz.underlying28 hi hz0 hzz1 hzz2 rfl rfl HR.out rfl HS.out (by unfold maxLen; omega) (by omega) HZ.out ?_
       intro v' w1 hown' hgrow _ _
       obtain ⟨g', cap', rfl⟩ := ownsRow_succ hown'
       have hv1 : Blk w1 w.heap.size 28 #[v] := HV.out.grownBy hgrow (ne_row_blk HV.out (by decide) HR.out)
       have hc1 := hv1.cell 0
       have hf1 := hv1.frozen 0
       have HO := Lib.hid (app_only HO0.out HR.out hgrow HN.out)
       have HV1 := Lib.hid hv1
       have HW := Lib.hid hown'
       simp at hc1
       clear hv1 hown' hgrow
       refine hK _ _ ?_; clear hK K
       refine wpAny_ready (rs := [7]) (by kernel_rfl) (by simp) ?_
       refine AllReady.cons rfl (fun K hK => ?_) ?_
       ·go_simp
        refine hK _ _ ?_; clear hK K
        refine wpAny_done (by kernel_rfl) ?_ _
        exact sup_end hsz HO.out HV1.out HW.out HK.out HB.out
       exact AllReady.nil
      exact AllReady.nil
     exact AllReady.nil
    refine AllReady.cons rfl (fun K hK => ?_) ?_
    ·go_simp
     refine hK _ _ ?_; clear hK K
     refine wpAny_ready (rs := [0]) (by kernel_rfl) (by simp) ?_
     refine AllReady.cons rfl (fun K hK => ?_) ?_
     ·go_simp
      refine hK _ _ ?_; clear hK K
      refine wpAny_ready (rs := [6]) (by kernel_rfl) (by simp) ?_
      refine AllReady.cons rfl (fun K hK => ?_) ?_
      ·refine step_apk rfl (.tmp 11) (.tmp 16) 28 28 rfl (w.heap.size + 6) 1 9 i0 _ 16 Tryz.underlying28 hi hz0 hzz1 hzz2 rfl rfl HR.out rfl HS.out (by unfold maxLen; omega) (by omega) HZ.out ?_
       intro v' w1 hown' hgrow _ _
       obtain ⟨g', cap', rfl⟩ := ownsRow_succ hown'
       have hv1 : Blk w1 w.heap.size 28 #[v] := HV.out.grownBy hgrow (ne_row_blk HV.out (by decide) HR.out)
       have hc1 := hv1.cell 0
       have hf1 := hv1.frozen 0
       have HO := Lib.hid (app_only HO0.out HR.out hgrow HN.out)
       have HV1 := Lib.hid hv1
       have HW := Lib.hid hown'
       simp at hc1
       clear hv1 hown' hgrow
       refine hK _ _ ?_; clear hK K
       refine wpAny_ready (rs := [7]) (by kernel_rfl) (by simp) ?_
       refine AllReady.cons rfl (fun K hK => ?_) ?_
       ·go_simp
        refine hK _ _ ?_; clear hK K
        refine wpAny_done (by kernel_rfl) ?_ _
        exact sup_end hsz HO.out HV1.out HW.out HK.out HB.out
       exact AllReady.nil
      exact AllReady.nil
     exact AllReady.nil
    exact AllReady.nil
   exact AllReady.nil
 case done =>
  rintro D W hD ⟨⟨v, hv, hrow, hnil⟩, hKp, _⟩ hd
  have HD := Lib.hid (hD.trans hsz)
  clear hD
  have hc := hv.cell
  have hfin := sup_fin (S := (· = D)) hrow
  have hown := fun w' (h : Only (· = D) W w') => owns_base (base' := w.heap.size) (owns_only hrow h (by intro g hg e; have := HD.out; omega)) (by omega)
  rcases hrow.2 with ⟨rfl, hl0⟩ | ⟨g, cap, cur, rfl, hg1, hg2, hg3, hg4, hg5, hg6⟩
  ·clear hl0
   go_wp2
   refine ⟨by simp, .inl ⟨_, _, rfl, run_takeDeferred hd, ?_⟩⟩
   refine ⟨_, results_tmp rfl _ _ _, _, rfl, hfin _ (Only.putObj (Only.refl (· = D) _) (.inl rfl) _) (by intro g hg e; have := HD.out; omega), hown _ (Only.putObj (Only.refl (· = D) _) (.inl rfl) _), hKp.onlyS (Only.putObj (Only.refl (· = D) _) (.inl rfl) _) (by intro k e; have := HD.out; omega)⟩
  ·go_wp2
   refine ⟨by simp, .inl ⟨_, _, rfl, run_takeDeferred hd, ?_⟩⟩
   refine ⟨_, results_tmp rfl _ _ _, _, rfl, hfin _ (Only.putObj (Only.refl (· = D) _) (.inl rfl) _) (by intro g hg e; have := HD.out; omega), hown _ (Only.putObj (Only.refl (· = D) _) (.inl rfl) _), hKp.onlyS (Only.putObj (Only.refl (· = D) _) (.inl rfl) _) (by intro k e; have := HD.out; omega)⟩
 case stop =>
  rintro D c pre W _ _ h _
  exact h.elim
end Go.Proofs.YthooiofaicdhgaaGreatDoor
