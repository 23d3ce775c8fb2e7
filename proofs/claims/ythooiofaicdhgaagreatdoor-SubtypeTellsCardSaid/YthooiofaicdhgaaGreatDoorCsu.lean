/- The contract of table.checkSuper. -/
import Derived.Test.YthooiofaicdhgaaGreatDoorCss
import Derived.Test.YthooiofaicdhgaaGreatDoorLnr
import Derived.Test.YthooiofaicdhgaaGreatDoorFi2
set_option linter.unusedSimpArgs false
set_option linter.unusedVariables false
set_option maxRecDepth 100000
namespace Go.Proofs.YthooiofaicdhgaaGreatDoor
open Go.ChangeShapes Go.WideShapes Go.ChangeAt Go.RowKit Go.Shelf
attribute [local go_sem] Oper.semAt_some

/-- The result's cell, and the class's. -/
def CsuC (w : World) (n : Int) (p : Value) (W : World) : Prop :=
  Blk W w.heap.size 36 #[.int .i64 n] ∧ Blk W (w.heap.size + 1) 124 #[p] ∧ Kept w W
theorem csuC_only {w A B : World} {n : Int} {p : Value} {S : Nat → Prop} (h : CsuC w n p A) (ho : Only S A B) (hs : ∀ k, S k → w.heap.size + 2 ≤ k) : CsuC w n p B :=
  ⟨h.1.only ho (fun e => by have := hs _ e; omega), h.2.1.only ho (fun e => by have := hs _ e; omega), h.2.2.onlyS ho (fun k e => by have := hs k e; omega)⟩
theorem csuC_set {w W : World} {n : Int} {p : Value} (h : CsuC w n p W) (m : Int) : CsuC w m p (W.setCell ⟨w.heap.size, 0, none⟩ (.int .i64 m)) ∧ Only (fun k => k = w.heap.size) W (W.setCell ⟨w.heap.size, 0, none⟩ (.int .i64 m)) := by
  have hO : Only (· = w.heap.size) W (W.setCell ⟨w.heap.size, 0, none⟩ (.int .i64 m)) := (Only.refl _ W).put 0 _
  exact ⟨⟨h.1.put 0 _, h.2.1.only hO (by omega), h.2.2.onlyS hO (fun k e => by omega)⟩, hO⟩
theorem CsuC.drew {w W : World} {n : Int} {p : Value} (h : CsuC w n p W) : CsuC w n p W.drew := ⟨h.1, h.2.1, h.2.2.drew⟩

def CsuI (t : List Tab.C) (nm : ByteArray) (w : World) (p : Value) (pre : List Nat) (W : World) : Prop := CsuC w 0 p W ∧ ∀ j ∈ pre, ¬ (Tab.nth t j).name = nm
def CsuX (t : List Tab.C) (nm : ByteArray) (w : World) (p : Value) (c : Code) (pre : List Nat) (W : World) : Prop := c = .ret ∧ CsuC w 9 p W ∧ ∃ j ∈ pre, (Tab.nth t j).name = nm

theorem csu_yes {t : List Tab.C} {i : Nat} (h0 : ¬ (Tab.nth t i).super = ⟨#[]⟩) (h1 : (Tab.ix Tab.C.name t (Tab.nth t i).super).isSome = true) {pre : List Nat} (hp : pre <+: Tab.line t (Tab.nth t i).super) (h : ∃ j ∈ pre, (Tab.nth t j).name = (Tab.nth t i).name) : Tab.chkSuper t i = 9 := by
  unfold Tab.chkSuper
  rw [if_neg h0, if_pos h1, if_pos]
  obtain ⟨j, hj, e⟩ := h
  exact List.any_eq_true.2 ⟨j, hp.subset hj, decide_eq_true e⟩
theorem csu_no {t : List Tab.C} {i : Nat} (h0 : ¬ (Tab.nth t i).super = ⟨#[]⟩) (h1 : (Tab.ix Tab.C.name t (Tab.nth t i).super).isSome = true) (h : ∀ j ∈ Tab.line t (Tab.nth t i).super, ¬ (Tab.nth t j).name = (Tab.nth t i).name) : Tab.chkSuper t i = 0 := by
  unfold Tab.chkSuper
  rw [if_neg h0, if_pos h1, if_neg]
  intro hh
  obtain ⟨j, hj, e⟩ := List.any_eq_true.1 hh
  exact h j hj (of_decide_eq_true e)

theorem csu_keep {t : List Tab.C} {nm : ByteArray} {w W : World} {p : Value} {U : Nat → Prop} {pre : List Nat} {j : Nat} (h : CsuI t nm w p pre W) (hn : ¬ (Tab.nth t j).name = nm) : Only U W W.drew ∧ CsuI t nm w p (pre ++ [j]) W.drew := by
  refine ⟨(Only.refl _ W).drew, h.1.drew, fun k hk => ?_⟩
  rcases List.mem_append.1 hk with hk | hk
  · exact h.2 k hk
  · simp at hk; rw [hk]; exact hn
theorem csu_found {t : List Tab.C} {nm : ByteArray} {w W : World} {p : Value} {X : Nat → Prop} {pre : List Nat} {j : Nat} (h : CsuI t nm w p pre W) (hn : (Tab.nth t j).name = nm) : Only (fun k => k = w.heap.size ∨ X k) W (W.drew.setCell ⟨w.heap.size, 0, none⟩ (.int .i64 9)) ∧ CsuX t nm w p .ret (pre ++ [j]) (W.drew.setCell ⟨w.heap.size, 0, none⟩ (.int .i64 9)) := by
  have hE := csuC_set h.1.drew 9
  exact ⟨((Only.refl _ W).drew.trans hE.2).mono fun k _ e => .inl e, rfl, hE.1, j, by simp, hn⟩

set_option maxHeartbeats 4000000 in
theorem csuper_c (t : List Tab.C) (a : Option Addr) (cp : Nat) (i : Nat) (w : World) (h : TabAt w (.slice a t.length cp) t) (hi : i < t.length) (ht : t.length ≤ 1000) :
    Calls Tryz.prog 101 #[.slice a t.length cp, .int .i64 i] w fun e w' => e = .returned (.int .i64 (Tab.chkSuper t i)) ∧ Kept w w' := by
  obtain ⟨av, hav⟩ : ∃ av, av = Tab.chkSuper t i := ⟨_, rfl⟩
  rw [← hav]
  have HAV := Lib.hid hav
  clear hav
  obtain ⟨b, o, rfl, hcl⟩ := Row.cellsC h hi
  have HCL := Lib.hid hcl
  have HT := Lib.hid h
  have hiI : (i : Int) < (t.length : Int) := by omega
  clear h hcl
  refine (callsIn_wide (n := 3)).1 (callsIn_of_wp_marks Tryz.func101 rfl trivial (wpIn_wide.2 ?_) rfl)
  simp only [Tryz.ntmps101, List.size_toArray, List.length_cons, List.length_nil, Nat.reduceAdd, Nat.reduceSub, Array.replicate_succ, Array.replicate_zero, List.push_toArray, List.append_toArray, List.nil_append, List.cons_append]
  have hk0 : Kept w ((w.alloc (.cells #[.int .i64 0] 36)).alloc (.cells #[.pointer (some ⟨b, o + i * 4, none⟩)] 124)) := ((Kept.refl w).alloc _).alloc _
  have hC0 : CsuC w 0 (.pointer (some ⟨b, o + i * 4, none⟩)) ((w.alloc (.cells #[.int .i64 0] 36)).alloc (.cells #[.pointer (some ⟨b, o + i * 4, none⟩)] 124)) := by
    have h2 := Blk.new (w.alloc (.cells #[.int .i64 0] 36)) 124 #[.pointer (some ⟨b, o + i * 4, none⟩)]
    simp only [World.size_alloc] at h2
    exact ⟨(Blk.new w _ _).alloc _, h2, hk0⟩
  have HC0 := Lib.hid hC0
  obtain ⟨d0, d1, _⟩ := HCL.out.kept hk0
  have r0 := hC0.1.cell 0
  have rf := hC0.1.frozen 0
  have r1 := hC0.2.1.cell 0
  simp only [List.getElem?_toArray, List.getElem?_cons_zero] at r0 r1
  clear hk0 hC0
  by_cases hse : (Tab.nth t i).super = ⟨#[]⟩
  · have HG := Lib.hid (show av = 0 by rw [HAV.out]; unfold Tab.chkSuper; rw [if_pos hse])
    have hst2 : (Tab.nth t i).super = ByteArray.empty := hse
    clear hse
    go_wp2_with fail
    exact ⟨.int .i64 0, by simp [results, Tryz.results101, go_sem, r0], by rw [HG.out], HC0.out.2.2⟩
  · have HSE := Lib.hid hse
    have hst : ((Tab.nth t i).super.toList == ([] : List UInt8)) = false := by
      have := beq_no hse
      rwa [show (⟨#[]⟩ : ByteArray).toList = [] by rw [ByteArray.toList_eq]] at this
    have hse2 : ¬ (Tab.nth t i).super = ByteArray.empty := hse
    obtain ⟨W1, hW1⟩ : ∃ W1, (w.alloc (.cells #[.int .i64 0] 36)).alloc (.cells #[.pointer (some ⟨b, o + i * 4, none⟩)] 124) = W1 := ⟨_, rfl⟩
    have HS1 := Lib.hid (show W1.heap.size = w.heap.size + 2 by rw [← hW1]; simp)
    obtain ⟨sp, hsp⟩ : ∃ sp, sp = (Tab.nth t i).super := ⟨_, rfl⟩
    have HSP := Lib.hid hsp
    have HF := Lib.hid (tfind_c t (.slice (some ⟨b, o, none⟩) t.length cp) sp W1 (tab_kept HT.out (by rw [← hW1]; exact HC0.out.2.2)))
    unfold FindPost at HF
    rw [hW1] at HC0 d0 d1 r0 rf r1
    rw [← hsp] at hst hse2 d1
    clear hse hsp
    cases hix : Tab.ix Tab.C.name t sp with
    | none =>
      have HG := Lib.hid (show av = 6 by rw [HAV.out]; unfold Tab.chkSuper; rw [if_neg HSE.out, ← HSP.out, hix]; rfl)
      rw [hix] at HF
      simp only [Tab.num, Option.isSome_none] at HF
      have HE := Lib.hid (csuC_set HC0.out 6)
      clear hix
      go_wp2_with fail
      clear hW1
      refine HF.out.mono ?_
      rintro e w2 ⟨rfl, rfl⟩
      go_wp2_with fail
      have q0 := HE.out.1.1.cell 0
      simp only [List.getElem?_toArray, List.getElem?_cons_zero] at q0
      exact ⟨.int .i64 6, by simp [results, Tryz.results101, go_sem, q0], by rw [HG.out], HE.out.1.2.2⟩
    | some k0 =>
      have HIX := Lib.hid (show (Tab.ix Tab.C.name t (Tab.nth t i).super).isSome = true by rw [← HSP.out, hix]; rfl)
      rw [hix] at HF
      simp only [Tab.num, Option.isSome_some] at HF
      clear hix
      go_wp2_with fail
      clear hW1
      refine HF.out.mono ?_
      rintro e w2 ⟨rfl, rfl⟩
      clear HF
      go_wp2_with fail
      refine (line_lineC _ _ t sp _).mono ?_
      rintro e w3 ⟨rfl, hw3⟩
      have HK3 := Lib.hid (show Kept w2 w3 by rw [hw3]; exact ((Kept.refl w2).alloc _).alloc _)
      have HS3 := Lib.hid (show w3.heap.size = w2.heap.size + 2 by rw [hw3]; simp)
      have HB1 := Lib.hid (show Blk w3 w2.heap.size 22 #[.slice (some ⟨b, o, none⟩) t.length cp] by rw [hw3]; exact (Blk.new _ _ _).alloc _)
      have HB2 := Lib.hid (show Blk w3 (w2.heap.size + 1) 9 #[.string sp] by
        rw [hw3]
        have := Blk.new (w2.alloc (.cells #[.slice (some ⟨b, o, none⟩) t.length cp] 22)) 9 #[.string sp]
        simpa using this)
      clear hw3 r0 rf r1 d0 d1 hst hse2
      go_wp2_with fail
      have e1 : w.heap.size + 2 ≤ w2.heap.size := by have := HS1.out; omega
      have e3 : w2.heap.size + 2 ≤ w3.heap.size := by have := HS3.out; omega
      have hI3 : CsuI t (Tab.nth t i).name w (.pointer (some ⟨b, o + i * 4, none⟩)) [] w3 := ⟨csuC_only HC0.out (S := fun _ => False) (Only.of_kept HK3.out) (fun _ h => h.elim), by simp⟩
      refine wpIn_wide.1 (wpIn_range_line (w0 := w) (bt := w2.heap.size) (bn := w2.heap.size + 1) (some ⟨b, o, none⟩) cp t sp (· = w.heap.size) rfl HT.out ht hI3.1.2.2 HB1.out HB2.out (by omega) (by omega) (by omega) (fun k e => by omega) rfl
        (CsuI t (Tab.nth t i).name w (.pointer (some ⟨b, o + i * 4, none⟩))) (CsuX t (Tab.nth t i).name w (.pointer (some ⟨b, o + i * 4, none⟩))) (fun pre A B h ho => ⟨csuC_only h.1 ho (fun k h => by omega), h.2⟩) (fun c pre A B h ho => ⟨h.1, csuC_only h.2.1 ho (fun k h => by omega), h.2.2⟩) hI3
        (fun j => { tmps := #[.slice (some ⟨b, o, none⟩) t.length cp, .int .i64 i, undef, undef, .pointer (some ⟨w.heap.size, 0, none⟩), .pointer (some ⟨w.heap.size + 1, 0, none⟩), .int .i64 k0, .bool true, elC (some ⟨b, o, none⟩) j, .slice (some ⟨b, o, none⟩) t.length cp, .int .i64 i, .pointer (some ⟨b, o + i * 4, none⟩), .pointer (some ⟨b, o + i * 4, none⟩), .pointer (some ⟨b, o + i * 4, none⟩), .pointer (some ⟨b, o + i * 4 + 1, none⟩), .string sp, .bool false, .tuple #[.int .i64 k0, .bool true], .slice (some ⟨b, o, none⟩) t.length cp, .pointer (some ⟨b, o + i * 4, none⟩), .pointer (some ⟨b, o + i * 4, none⟩), .pointer (some ⟨b, o + i * 4 + 1, none⟩), .string sp, .tuple #[.int .i64 k0, .bool true], .int .i64 k0, .bool true, .bool true, .bool false, .slice (some ⟨b, o, none⟩) t.length cp, .pointer (some ⟨b, o + i * 4, none⟩), .pointer (some ⟨b, o + i * 4, none⟩), .pointer (some ⟨b, o + i * 4 + 1, none⟩), .string sp, .func (.func 165) #[] #[.pointer (some ⟨w2.heap.size, 0, none⟩), .pointer (some ⟨w2.heap.size + 1, 0, none⟩)], elC (some ⟨b, o, none⟩) j, undef, undef, undef, undef, undef, undef, undef, undef, undef], defers := [] }) ?assign ?body ?done ?stop)
      case assign =>
        intro l j W K hK
        gi_wp2
        exact hK
      case body =>
        rintro l pre j b2 o2 W hl _ hIW hsize hpre hj e2 hcl2
        injection e2 with e2
        injection e2 with e4 e5
        subst e4 e5
        have HI := Lib.hid hIW
        obtain ⟨x0, _⟩ := hcl2.kept hIW.1.2.2
        obtain ⟨y0, _⟩ := HCL.out.kept hIW.1.2.2
        have q0 := hIW.1.1.cell 0
        have f0 := hIW.1.1.frozen 0
        have q1 := hIW.1.2.1.cell 0
        simp at q0 q1
        simp only [elC, evC, Option.map_some]
        clear hIW hcl2 hpre hI3 e1 e3 hsize hl
        by_cases hx : (Tab.nth t j).name = (Tab.nth t i).name
        · have HX := Lib.hid hx
          have hb := beq_yes hx
          clear hx
          gi_wp2
          refine wpIn_region_of_any (by kernel_rfl) (by kernel_rfl) (by rintro ⟨_, _, h⟩; exact h) ?_
          · change wpAny _ _ _ _ _ _ _ (World.drew _)
            refine wpAny_take (i := 0) (v := ?_) rfl (by kernel_rfl) (by kernel_rfl) (by kernel_rfl) (fun _ _ _ h => h) (Or.inl ⟨by rfl, ?_⟩) ?_
            rotate_left
            · intro w; go_simp; try with_reducible rfl
            refine wpAny_take (i := 1) (v := ?_) rfl (by kernel_rfl) (by kernel_rfl) (by kernel_rfl) (fun _ _ _ h => h) (Or.inl ⟨by rfl, ?_⟩) ?_
            rotate_left
            · intro w; go_simp; try with_reducible rfl
            refine wpAny_take (i := 2) (v := ?_) rfl (by kernel_rfl) (by kernel_rfl) (by kernel_rfl) (fun _ _ _ h => h) (Or.inl ⟨by rfl, ?_⟩) ?_
            rotate_left
            · intro w; go_simp; try with_reducible rfl
            refine wpAny_ready (rs := [3, 4]) (by kernel_rfl) (by simp) ?_
            refine AllReady.cons rfl (fun K hK => ?_) ?_
            · go_simp
              refine hK _ _ ?_; clear hK K
              refine wpAny_ready (rs := [4]) (by kernel_rfl) (by simp) ?_
              refine AllReady.cons rfl (fun K hK => ?_) ?_
              · go_simp
                refine hK _ _ ?_; clear hK K
                refine wpAny_take (i := 5) (v := ?_) rfl (by kernel_rfl) (by kernel_rfl) (by kernel_rfl) (fun _ _ _ h => h) (Or.inl ⟨by rfl, ?_⟩) ?_
                rotate_left
                · intro w; go_simp; try with_reducible rfl
                refine wpAny_take (i := 6) (v := ?_) rfl (by kernel_rfl) (by kernel_rfl) (by kernel_rfl) (fun _ _ _ h => h) (Or.inl ⟨by rfl, ?_⟩) ?_
                rotate_left
                · intro w; go_simp; try with_reducible rfl
                refine wpAny_ready (rs := [7]) (by kernel_rfl) (by simp) ?_
                refine AllReady.cons rfl (fun K hK => ?_) ?_
                · go_simp
                  refine hK _ _ ?_; clear hK K
                  refine wpAny_take (i := 8) (v := ?_) rfl (by kernel_rfl) (by kernel_rfl) (by kernel_rfl) (fun _ _ _ h => h) (Or.inl ⟨by rfl, ?_⟩) ?_
                  rotate_left
                  · intro w; go_simp; try with_reducible rfl
                  refine wpAny_done (by kernel_rfl) ?_ _
                  gi_wp2
                  exact csu_found HI.out HX.out
                exact AllReady.nil
              exact AllReady.nil
            refine AllReady.cons rfl (fun K hK => ?_) ?_
            · go_simp
              refine hK _ _ ?_; clear hK K
              refine wpAny_take (i := 5) (v := ?_) rfl (by kernel_rfl) (by kernel_rfl) (by kernel_rfl) (fun _ _ _ h => h) (Or.inl ⟨by rfl, ?_⟩) ?_
              rotate_left
              · intro w; go_simp; try with_reducible rfl
              refine wpAny_take (i := 6) (v := ?_) rfl (by kernel_rfl) (by kernel_rfl) (by kernel_rfl) (fun _ _ _ h => h) (Or.inl ⟨by rfl, ?_⟩) ?_
              rotate_left
              · intro w; go_simp; try with_reducible rfl
              refine wpAny_ready (rs := [3, 7]) (by kernel_rfl) (by simp) ?_
              refine AllReady.cons rfl (fun K hK => ?_) ?_
              · go_simp
                refine hK _ _ ?_; clear hK K
                refine wpAny_ready (rs := [7]) (by kernel_rfl) (by simp) ?_
                refine AllReady.cons rfl (fun K hK => ?_) ?_
                · go_simp
                  refine hK _ _ ?_; clear hK K
                  refine wpAny_take (i := 8) (v := ?_) rfl (by kernel_rfl) (by kernel_rfl) (by kernel_rfl) (fun _ _ _ h => h) (Or.inl ⟨by rfl, ?_⟩) ?_
                  rotate_left
                  · intro w; go_simp; try with_reducible rfl
                  refine wpAny_done (by kernel_rfl) ?_ _
                  gi_wp2
                  exact csu_found HI.out HX.out
                exact AllReady.nil
              refine AllReady.cons rfl (fun K hK => ?_) ?_
              · go_simp
                refine hK _ _ ?_; clear hK K
                refine wpAny_ready (rs := [3]) (by kernel_rfl) (by simp) ?_
                refine AllReady.cons rfl (fun K hK => ?_) ?_
                · go_simp
                  refine hK _ _ ?_; clear hK K
                  refine wpAny_take (i := 8) (v := ?_) rfl (by kernel_rfl) (by kernel_rfl) (by kernel_rfl) (fun _ _ _ h => h) (Or.inl ⟨by rfl, ?_⟩) ?_
                  rotate_left
                  · intro w; go_simp; try with_reducible rfl
                  refine wpAny_done (by kernel_rfl) ?_ _
                  gi_wp2
                  exact csu_found HI.out HX.out
                exact AllReady.nil
              exact AllReady.nil
            exact AllReady.nil
        · have HX := Lib.hid hx
          have hb := beq_no hx
          clear hx
          gi_wp2
          refine wpIn_region_of_any (by kernel_rfl) (by kernel_rfl) (by rintro ⟨_, _, h⟩; exact h) ?_
          · change wpAny _ _ _ _ _ _ _ (World.drew _)
            refine wpAny_take (i := 0) (v := ?_) rfl (by kernel_rfl) (by kernel_rfl) (by kernel_rfl) (fun _ _ _ h => h) (Or.inl ⟨by rfl, ?_⟩) ?_
            rotate_left
            · intro w; go_simp; try with_reducible rfl
            refine wpAny_take (i := 1) (v := ?_) rfl (by kernel_rfl) (by kernel_rfl) (by kernel_rfl) (fun _ _ _ h => h) (Or.inl ⟨by rfl, ?_⟩) ?_
            rotate_left
            · intro w; go_simp; try with_reducible rfl
            refine wpAny_take (i := 2) (v := ?_) rfl (by kernel_rfl) (by kernel_rfl) (by kernel_rfl) (fun _ _ _ h => h) (Or.inl ⟨by rfl, ?_⟩) ?_
            rotate_left
            · intro w; go_simp; try with_reducible rfl
            refine wpAny_ready (rs := [3, 4]) (by kernel_rfl) (by simp) ?_
            refine AllReady.cons rfl (fun K hK => ?_) ?_
            · go_simp
              refine hK _ _ ?_; clear hK K
              refine wpAny_ready (rs := [4]) (by kernel_rfl) (by simp) ?_
              refine AllReady.cons rfl (fun K hK => ?_) ?_
              · go_simp
                refine hK _ _ ?_; clear hK K
                refine wpAny_take (i := 5) (v := ?_) rfl (by kernel_rfl) (by kernel_rfl) (by kernel_rfl) (fun _ _ _ h => h) (Or.inl ⟨by rfl, ?_⟩) ?_
                rotate_left
                · intro w; go_simp; try with_reducible rfl
                refine wpAny_take (i := 6) (v := ?_) rfl (by kernel_rfl) (by kernel_rfl) (by kernel_rfl) (fun _ _ _ h => h) (Or.inl ⟨by rfl, ?_⟩) ?_
                rotate_left
                · intro w; go_simp; try with_reducible rfl
                refine wpAny_ready (rs := [7]) (by kernel_rfl) (by simp) ?_
                refine AllReady.cons rfl (fun K hK => ?_) ?_
                · go_simp
                  refine hK _ _ ?_; clear hK K
                  refine wpAny_take (i := 8) (v := ?_) rfl (by kernel_rfl) (by kernel_rfl) (by kernel_rfl) (fun _ _ _ h => h) (Or.inl ⟨by rfl, ?_⟩) ?_
                  rotate_left
                  · intro w; go_simp; try with_reducible rfl
                  refine wpAny_done (by kernel_rfl) ?_ _
                  gi_wp2
                  exact csu_keep HI.out HX.out
                exact AllReady.nil
              exact AllReady.nil
            refine AllReady.cons rfl (fun K hK => ?_) ?_
            · go_simp
              refine hK _ _ ?_; clear hK K
              refine wpAny_take (i := 5) (v := ?_) rfl (by kernel_rfl) (by kernel_rfl) (by kernel_rfl) (fun _ _ _ h => h) (Or.inl ⟨by rfl, ?_⟩) ?_
              rotate_left
              · intro w; go_simp; try with_reducible rfl
              refine wpAny_take (i := 6) (v := ?_) rfl (by kernel_rfl) (by kernel_rfl) (by kernel_rfl) (fun _ _ _ h => h) (Or.inl ⟨by rfl, ?_⟩) ?_
              rotate_left
              · intro w; go_simp; try with_reducible rfl
              refine wpAny_ready (rs := [3, 7]) (by kernel_rfl) (by simp) ?_
              refine AllReady.cons rfl (fun K hK => ?_) ?_
              · go_simp
                refine hK _ _ ?_; clear hK K
                refine wpAny_ready (rs := [7]) (by kernel_rfl) (by simp) ?_
                refine AllReady.cons rfl (fun K hK => ?_) ?_
                · go_simp
                  refine hK _ _ ?_; clear hK K
                  refine wpAny_take (i := 8) (v := ?_) rfl (by kernel_rfl) (by kernel_rfl) (by kernel_rfl) (fun _ _ _ h => h) (Or.inl ⟨by rfl, ?_⟩) ?_
                  rotate_left
                  · intro w; go_simp; try with_reducible rfl
                  refine wpAny_done (by kernel_rfl) ?_ _
                  gi_wp2
                  exact csu_keep HI.out HX.out
                exact AllReady.nil
              refine AllReady.cons rfl (fun K hK => ?_) ?_
              · go_simp
                refine hK _ _ ?_; clear hK K
                refine wpAny_ready (rs := [3]) (by kernel_rfl) (by simp) ?_
                refine AllReady.cons rfl (fun K hK => ?_) ?_
                · go_simp
                  refine hK _ _ ?_; clear hK K
                  refine wpAny_take (i := 8) (v := ?_) rfl (by kernel_rfl) (by kernel_rfl) (by kernel_rfl) (fun _ _ _ h => h) (Or.inl ⟨by rfl, ?_⟩) ?_
                  rotate_left
                  · intro w; go_simp; try with_reducible rfl
                  refine wpAny_done (by kernel_rfl) ?_ _
                  gi_wp2
                  exact csu_keep HI.out HX.out
                exact AllReady.nil
              exact AllReady.nil
            exact AllReady.nil
      case done =>
        rintro D W hD hIW hd
        have HG := Lib.hid (show av = 0 by rw [HAV.out]; exact csu_no HSE.out HIX.out (fun j hj => hIW.2 j (by rw [HSP.out]; exact hj)))
        have hDn : w.heap.size + 4 ≤ D := by omega
        have q0 := hIW.1.1.cell 0
        have f0 := hIW.1.1.frozen 0
        have hE := csuC_set hIW.1 0
        have hd' := hE.2.same hd (by omega)
        have hR := csuC_only hE.1 (Only.putObj (Only.refl (· = D) _) (.inl rfl) (.deferred none)) (fun k h => by omega)
        have HR := Lib.hid hR
        have HE := Lib.hid hd'
        simp at q0
        clear hIW hD hI3 e1 e3 hd' hR hE hDn hd
        go_wp2
        clear q0 f0
        have q0 := HR.out.1.cell 0
        simp only [List.getElem?_toArray, List.getElem?_cons_zero] at q0
        generalize (W.setCell ⟨w.heap.size, 0, none⟩ (Value.int .i64 0)) = Wf at *
        refine ⟨by simp, .inl ⟨_, _, rfl, run_takeDeferred HE.out, ?_⟩⟩
        exact ⟨.int .i64 0, by simp [results, Tryz.results101, go_sem, q0], by rw [HG.out], HR.out.2.2⟩
      case stop =>
        rintro D c2 pre W hD hpre ⟨rfl, h1, h2⟩ hd
        rw [HSP.out] at hpre
        have HG := Lib.hid (show av = 9 by rw [HAV.out]; exact csu_yes HSE.out HIX.out hpre h2)
        have hR := csuC_only h1 (Only.putObj (Only.refl (· = D) W) (.inl rfl) (.deferred none)) (fun k h => by omega)
        have q0 := hR.1.cell 0
        simp only [List.getElem?_toArray, List.getElem?_cons_zero] at q0
        have HR := Lib.hid hR
        clear hR h1 h2 hpre hI3 e1 e3 hD
        gi_wp2
        refine ⟨by simp, .inl ⟨_, _, rfl, run_takeDeferred hd, ?_⟩⟩
        exact ⟨.int .i64 9, by simp [results, Tryz.results101, go_sem, q0], by rw [HG.out], HR.out.2.2⟩

end Go.Proofs.YthooiofaicdhgaaGreatDoor
