/- The contract of table.checkHead. -/
import Derived.Test.YthooiofaicdhgaaGreatDoorCsg
import Derived.Test.YthooiofaicdhgaaGreatDoorLnr
set_option linter.unusedSimpArgs false
set_option linter.unusedVariables false
set_option maxRecDepth 100000
namespace Go.Proofs.YthooiofaicdhgaaGreatDoor
open Go.ChangeShapes Go.WideShapes Go.ChangeAt Go.RowKit

theorem hd_params {t : List Tab.C} {i : Nat} {c : Tab.C} {m : Tab.M} (h1 : Tab.nth t i = c ∧ Wrd.cls c.name = true) (h2 : Tab.ix Tab.C.name (t.take i) c.name = none) (h3 : ¬ 20 < c.fields.length) (h4 : ¬ 20 < c.methods.length) (hm : m ∈ c.methods) (h8 : 8 < m.params.length) : Tab.chkHead t i = 12 := by
  unfold Tab.chkHead
  rw [h1.1, h1.2, h2, if_pos rfl, if_neg (by simp), if_neg h3, if_neg h4, if_pos (List.any_eq_true.2 ⟨m, hm, decide_eq_true h8⟩)]
theorem hd_ok {t : List Tab.C} {i : Nat} {c : Tab.C} (h1 : Tab.nth t i = c ∧ Wrd.cls c.name = true) (h2 : Tab.ix Tab.C.name (t.take i) c.name = none) (h3 : ¬ 20 < c.fields.length) (h4 : ¬ 20 < c.methods.length) (h8 : ∀ m ∈ c.methods, ¬ 8 < m.params.length) : Tab.chkHead t i = 0 := by
  unfold Tab.chkHead
  rw [h1.1, h1.2, h2, if_pos rfl, if_neg (by simp), if_neg h3, if_neg h4, if_neg]
  intro h
  obtain ⟨m, hm, h⟩ := List.any_eq_true.1 h
  exact h8 m hm (of_decide_eq_true h)

set_option maxHeartbeats 4000000 in
theorem chead_c (t : List Tab.C) (a : Option Addr) (cp : Nat) (i : Nat) (w : World) (h : TabAt w (.slice a t.length cp) t) (hi : i < t.length) (hS : t.length ≤ 1000) :
    Calls Tryz.prog 100 #[.slice a t.length cp, .int .i64 i] w fun e w' => e = .returned (.int .i64 (Tab.chkHead t i)) ∧ Kept w w' := by
  obtain ⟨av, hav⟩ : ∃ av, av = Tab.chkHead t i := ⟨_, rfl⟩
  rw [← hav]
  have HAV := Lib.hid hav
  clear hav
  obtain ⟨b, o, rfl, hcl⟩ := Row.cellsC h hi
  have HCL := Lib.hid hcl
  obtain ⟨c, hc⟩ : ∃ c, Tab.nth t i = c := ⟨_, rfl⟩
  rw [hc] at hcl HCL
  obtain ⟨c0, c1, ⟨fu, c2, hf⟩, ⟨mu, c3, hm⟩, hs1, hs2⟩ := hcl
  obtain ⟨fa, fc, rfl, hf1, hf2, _⟩ := hf
  obtain ⟨ma, mc, rfl, hm1, hm2, hat⟩ := hm
  have HAT := Lib.hid hat
  have hiI : (i : Int) < (t.length : Int) := by omega
  have H1 := Lib.hid (class_c c.name w hs1)
  have hcp : t.length ≤ cp ∧ cp ≤ 9223372036854775807 := by obtain ⟨_, c', e, h1, h2, _⟩ := h; injection e with _ e2 e3; subst e3; exact ⟨h1, h2⟩
  have hic : i ≤ cp := by omega
  have HT := Lib.hid h
  have HCE := Lib.hid hc
  clear hat h hc
  cases hn : Wrd.cls c.name with
  | false =>
    rw [hn] at H1
    have HE := Lib.hid (show av = 5 by rw [HAV.out]; unfold Tab.chkHead; rw [HCE.out, hn]; rfl)
    clear hn
    go_enter Tryz.func100, Tryz.ntmps100
    go_wp2_with fail
    refine H1.out.mono ?_
    rintro e w1 ⟨rfl, k1⟩
    go_wp2_with fail
    go_ret
    exact ⟨by rw [HE.out]; rfl, k1⟩
  | true =>
    rw [hn] at H1
    have HC1 := Lib.hid (⟨HCE.out, hn⟩ : Tab.nth t i = c ∧ Wrd.cls c.name = true)
    clear hn
    go_enter Tryz.func100, Tryz.ntmps100
    go_wp2_with fail
    refine H1.out.mono ?_
    rintro e w1 ⟨rfl, k1⟩
    have HK1 := Lib.hid k1
    have d0 := k1.cell c0
    have d2 := k1.cell c2
    have d3 := k1.cell c3
    have HF := Lib.hid (tfind_c (t.take i) (.slice (some ⟨b, o, none⟩) i cp) c.name w1.drew (Row.take (tab_kept HT.out HK1.out.drew) (by omega)))
    unfold FindPost at HF
    clear k1 H1 c0 c1 c2 c3
    cases hix : Tab.ix Tab.C.name (t.take i) c.name with
    | some j =>
      have HG := Lib.hid (show av = 8 by rw [HAV.out]; unfold Tab.chkHead; rw [HC1.out.1, HC1.out.2, hix]; rfl)
      rw [hix] at HF
      simp only [Tab.num, Option.isSome_some] at HF
      clear hix
      go_wp2_with fail
      refine wp_region_any (by kernel_rfl) ?_
      change wpAny _ _ _ _ _ _ _ (World.drew _)
      refine wpAny_take (i := 0) (v := ?_) rfl (by kernel_rfl) (by kernel_rfl) (by kernel_rfl) (fun _ _ _ h => h) (Or.inl ⟨by rfl, ?_⟩) ?_
      rotate_left
      · intro w; go_simp; try with_reducible rfl
      refine wpAny_take (i := 1) (v := ?_) rfl (by kernel_rfl) (by kernel_rfl) (by kernel_rfl) (fun _ _ _ h => h) (Or.inl ⟨by rfl, ?_⟩) ?_
      rotate_left
      · intro w; go_simp; try with_reducible rfl
      refine wpAny_take (i := 2) (v := ?_) rfl (by kernel_rfl) (by kernel_rfl) (by kernel_rfl) (fun _ _ _ h => h) (Or.inl ⟨by rfl, ?_⟩) ?_
      rotate_left
      · intro w; go_simp; try with_reducible rfl
      refine wpAny_take (i := 3) (v := ?_) rfl (by kernel_rfl) (by kernel_rfl) (by kernel_rfl) (fun _ _ _ h => h) (Or.inl ⟨by rfl, ?_⟩) ?_
      rotate_left
      · intro w; go_simp; try with_reducible rfl
      refine wpAny_take (i := 4) (v := ?_) rfl (by kernel_rfl) (by kernel_rfl) (by kernel_rfl) (fun _ _ _ h => h) (Or.inl ⟨by rfl, ?_⟩) ?_
      rotate_left
      · intro w; go_simp; try with_reducible rfl
      refine wpAny_take (i := 5) (v := ?_) rfl (by kernel_rfl) (by kernel_rfl) (by kernel_rfl) (fun _ _ _ h => h) (Or.inl ⟨by rfl, ?_⟩) ?_
      rotate_left
      · intro w; go_simp; try with_reducible rfl
      refine wpAny_ready (rs := [6]) (by kernel_rfl) (by simp) ?_
      refine AllReady.cons rfl (fun K hK => ?_) ?_
      · go_simp
        refine hK _ _ ?_; clear hK K
        refine wpAny_ready (rs := [7]) (by kernel_rfl) (by simp) ?_
        refine AllReady.cons rfl (fun K hK => ?_) ?_
        · go_simp
          go_wp2_with fail
          refine HF.out.mono ?_
          rintro e w4 ⟨rfl, rfl⟩
          dsimp only
          refine hK _ _ ?_; clear hK K
          refine wpAny_take (i := 8) (v := ?_) rfl (by kernel_rfl) (by kernel_rfl) (by kernel_rfl) (fun _ _ _ h => h) (Or.inl ⟨by rfl, ?_⟩) ?_
          rotate_left
          · intro w; go_simp; try with_reducible rfl
          refine wpAny_take (i := 9) (v := ?_) rfl (by kernel_rfl) (by kernel_rfl) (by kernel_rfl) (fun _ _ _ h => h) (Or.inl ⟨by rfl, ?_⟩) ?_
          rotate_left
          · intro w; go_simp; try with_reducible rfl
          refine wpAny_take (i := 10) (v := ?_) rfl (by kernel_rfl) (by kernel_rfl) (by kernel_rfl) (fun _ _ _ h => h) (Or.inl ⟨by rfl, ?_⟩) ?_
          rotate_left
          · intro w; go_simp; try with_reducible rfl
          refine wpAny_take (i := 11) (v := ?_) rfl (by kernel_rfl) (by kernel_rfl) (by kernel_rfl) (fun _ _ _ h => h) (Or.inl ⟨by rfl, ?_⟩) ?_
          rotate_left
          · intro w; go_simp; try with_reducible rfl
          refine wpAny_take (i := 12) (v := ?_) rfl (by kernel_rfl) (by kernel_rfl) (by kernel_rfl) (fun _ _ _ h => h) (Or.inl ⟨by rfl, ?_⟩) ?_
          rotate_left
          · intro w; go_simp; try with_reducible rfl
          refine wpAny_done (by kernel_rfl) ?_ _
          go_wp2_with fail
          go_ret
          exact ⟨by rw [HG.out]; rfl, HK1.out.drew⟩
        exact AllReady.nil
      exact AllReady.nil
    | none =>
      have HC2 := Lib.hid hix
      rw [hix] at HF
      simp only [Tab.num, Option.isSome_none] at HF
      clear hix
      by_cases hfl : 20 < c.fields.length
      · have hflI : (20 : Int) < (c.fields.length : Int) := by omega
        have HG := Lib.hid (show av = 12 by rw [HAV.out]; unfold Tab.chkHead; rw [HC1.out.1, HC1.out.2, HC2.out, if_pos rfl, if_neg (by simp), if_pos hfl])
        clear hfl
        go_wp2_with fail
        refine wp_region_any (by kernel_rfl) ?_
        change wpAny _ _ _ _ _ _ _ (World.drew _)
        refine wpAny_take (i := 0) (v := ?_) rfl (by kernel_rfl) (by kernel_rfl) (by kernel_rfl) (fun _ _ _ h => h) (Or.inl ⟨by rfl, ?_⟩) ?_
        rotate_left
        · intro w; go_simp; try with_reducible rfl
        refine wpAny_take (i := 1) (v := ?_) rfl (by kernel_rfl) (by kernel_rfl) (by kernel_rfl) (fun _ _ _ h => h) (Or.inl ⟨by rfl, ?_⟩) ?_
        rotate_left
        · intro w; go_simp; try with_reducible rfl
        refine wpAny_take (i := 2) (v := ?_) rfl (by kernel_rfl) (by kernel_rfl) (by kernel_rfl) (fun _ _ _ h => h) (Or.inl ⟨by rfl, ?_⟩) ?_
        rotate_left
        · intro w; go_simp; try with_reducible rfl
        refine wpAny_take (i := 3) (v := ?_) rfl (by kernel_rfl) (by kernel_rfl) (by kernel_rfl) (fun _ _ _ h => h) (Or.inl ⟨by rfl, ?_⟩) ?_
        rotate_left
        · intro w; go_simp; try with_reducible rfl
        refine wpAny_take (i := 4) (v := ?_) rfl (by kernel_rfl) (by kernel_rfl) (by kernel_rfl) (fun _ _ _ h => h) (Or.inl ⟨by rfl, ?_⟩) ?_
        rotate_left
        · intro w; go_simp; try with_reducible rfl
        refine wpAny_take (i := 5) (v := ?_) rfl (by kernel_rfl) (by kernel_rfl) (by kernel_rfl) (fun _ _ _ h => h) (Or.inl ⟨by rfl, ?_⟩) ?_
        rotate_left
        · intro w; go_simp; try with_reducible rfl
        refine wpAny_ready (rs := [6]) (by kernel_rfl) (by simp) ?_
        refine AllReady.cons rfl (fun K hK => ?_) ?_
        · go_simp
          refine hK _ _ ?_; clear hK K
          refine wpAny_ready (rs := [7]) (by kernel_rfl) (by simp) ?_
          refine AllReady.cons rfl (fun K hK => ?_) ?_
          · go_simp
            go_wp2_with fail
            refine HF.out.mono ?_
            rintro e w4 ⟨rfl, rfl⟩
            dsimp only
            refine hK _ _ ?_; clear hK K
            refine wpAny_take (i := 8) (v := ?_) rfl (by kernel_rfl) (by kernel_rfl) (by kernel_rfl) (fun _ _ _ h => h) (Or.inl ⟨by rfl, ?_⟩) ?_
            rotate_left
            · intro w; go_simp; try with_reducible rfl
            refine wpAny_take (i := 9) (v := ?_) rfl (by kernel_rfl) (by kernel_rfl) (by kernel_rfl) (fun _ _ _ h => h) (Or.inl ⟨by rfl, ?_⟩) ?_
            rotate_left
            · intro w; go_simp; try with_reducible rfl
            refine wpAny_take (i := 10) (v := ?_) rfl (by kernel_rfl) (by kernel_rfl) (by kernel_rfl) (fun _ _ _ h => h) (Or.inl ⟨by rfl, ?_⟩) ?_
            rotate_left
            · intro w; go_simp; try with_reducible rfl
            refine wpAny_take (i := 11) (v := ?_) rfl (by kernel_rfl) (by kernel_rfl) (by kernel_rfl) (fun _ _ _ h => h) (Or.inl ⟨by rfl, ?_⟩) ?_
            rotate_left
            · intro w; go_simp; try with_reducible rfl
            refine wpAny_take (i := 12) (v := ?_) rfl (by kernel_rfl) (by kernel_rfl) (by kernel_rfl) (fun _ _ _ h => h) (Or.inl ⟨by rfl, ?_⟩) ?_
            rotate_left
            · intro w; go_simp; try with_reducible rfl
            refine wpAny_done (by kernel_rfl) ?_ _
            go_wp2_with fail
            go_ret
            exact ⟨by rw [HG.out]; rfl, HK1.out.drew⟩
          exact AllReady.nil
        exact AllReady.nil
      · have hflI : ¬ (20 : Int) < (c.fields.length : Int) := by omega
        have HC3 := Lib.hid hfl
        clear hfl
        by_cases hml : 20 < c.methods.length
        · have hmlI : (20 : Int) < (c.methods.length : Int) := by omega
          have HG := Lib.hid (show av = 12 by rw [HAV.out]; unfold Tab.chkHead; rw [HC1.out.1, HC1.out.2, HC2.out, if_pos rfl, if_neg (by simp), if_neg HC3.out, if_pos hml])
          clear hml
          go_wp2_with fail
          refine wp_region_any (by kernel_rfl) ?_
          change wpAny _ _ _ _ _ _ _ (World.drew _)
          refine wpAny_take (i := 0) (v := ?_) rfl (by kernel_rfl) (by kernel_rfl) (by kernel_rfl) (fun _ _ _ h => h) (Or.inl ⟨by rfl, ?_⟩) ?_
          rotate_left
          · intro w; go_simp; try with_reducible rfl
          refine wpAny_take (i := 1) (v := ?_) rfl (by kernel_rfl) (by kernel_rfl) (by kernel_rfl) (fun _ _ _ h => h) (Or.inl ⟨by rfl, ?_⟩) ?_
          rotate_left
          · intro w; go_simp; try with_reducible rfl
          refine wpAny_take (i := 2) (v := ?_) rfl (by kernel_rfl) (by kernel_rfl) (by kernel_rfl) (fun _ _ _ h => h) (Or.inl ⟨by rfl, ?_⟩) ?_
          rotate_left
          · intro w; go_simp; try with_reducible rfl
          refine wpAny_take (i := 3) (v := ?_) rfl (by kernel_rfl) (by kernel_rfl) (by kernel_rfl) (fun _ _ _ h => h) (Or.inl ⟨by rfl, ?_⟩) ?_
          rotate_left
          · intro w; go_simp; try with_reducible rfl
          refine wpAny_take (i := 4) (v := ?_) rfl (by kernel_rfl) (by kernel_rfl) (by kernel_rfl) (fun _ _ _ h => h) (Or.inl ⟨by rfl, ?_⟩) ?_
          rotate_left
          · intro w; go_simp; try with_reducible rfl
          refine wpAny_take (i := 5) (v := ?_) rfl (by kernel_rfl) (by kernel_rfl) (by kernel_rfl) (fun _ _ _ h => h) (Or.inl ⟨by rfl, ?_⟩) ?_
          rotate_left
          · intro w; go_simp; try with_reducible rfl
          refine wpAny_ready (rs := [6]) (by kernel_rfl) (by simp) ?_
          refine AllReady.cons rfl (fun K hK => ?_) ?_
          · go_simp
            refine hK _ _ ?_; clear hK K
            refine wpAny_ready (rs := [7]) (by kernel_rfl) (by simp) ?_
            refine AllReady.cons rfl (fun K hK => ?_) ?_
            · go_simp
              go_wp2_with fail
              refine HF.out.mono ?_
              rintro e w4 ⟨rfl, rfl⟩
              dsimp only
              refine hK _ _ ?_; clear hK K
              refine wpAny_take (i := 8) (v := ?_) rfl (by kernel_rfl) (by kernel_rfl) (by kernel_rfl) (fun _ _ _ h => h) (Or.inl ⟨by rfl, ?_⟩) ?_
              rotate_left
              · intro w; go_simp; try with_reducible rfl
              refine wpAny_take (i := 9) (v := ?_) rfl (by kernel_rfl) (by kernel_rfl) (by kernel_rfl) (fun _ _ _ h => h) (Or.inl ⟨by rfl, ?_⟩) ?_
              rotate_left
              · intro w; go_simp; try with_reducible rfl
              refine wpAny_take (i := 10) (v := ?_) rfl (by kernel_rfl) (by kernel_rfl) (by kernel_rfl) (fun _ _ _ h => h) (Or.inl ⟨by rfl, ?_⟩) ?_
              rotate_left
              · intro w; go_simp; try with_reducible rfl
              refine wpAny_take (i := 11) (v := ?_) rfl (by kernel_rfl) (by kernel_rfl) (by kernel_rfl) (fun _ _ _ h => h) (Or.inl ⟨by rfl, ?_⟩) ?_
              rotate_left
              · intro w; go_simp; try with_reducible rfl
              refine wpAny_take (i := 12) (v := ?_) rfl (by kernel_rfl) (by kernel_rfl) (by kernel_rfl) (fun _ _ _ h => h) (Or.inl ⟨by rfl, ?_⟩) ?_
              rotate_left
              · intro w; go_simp; try with_reducible rfl
              refine wpAny_done (by kernel_rfl) ?_ _
              go_wp2_with fail
              go_ret
              exact ⟨by rw [HG.out]; rfl, HK1.out.drew⟩
            exact AllReady.nil
          exact AllReady.nil
        · have hmlI : ¬ (20 : Int) < (c.methods.length : Int) := by omega
          have HC4 := Lib.hid hml
          clear hml
          go_wp2_with fail
          refine wp_region_any (by kernel_rfl) ?_
          change wpAny _ _ _ _ _ _ _ (World.drew _)
          refine wpAny_take (i := 0) (v := ?_) rfl (by kernel_rfl) (by kernel_rfl) (by kernel_rfl) (fun _ _ _ h => h) (Or.inl ⟨by rfl, ?_⟩) ?_
          rotate_left
          · intro w; go_simp; try with_reducible rfl
          refine wpAny_take (i := 1) (v := ?_) rfl (by kernel_rfl) (by kernel_rfl) (by kernel_rfl) (fun _ _ _ h => h) (Or.inl ⟨by rfl, ?_⟩) ?_
          rotate_left
          · intro w; go_simp; try with_reducible rfl
          refine wpAny_take (i := 2) (v := ?_) rfl (by kernel_rfl) (by kernel_rfl) (by kernel_rfl) (fun _ _ _ h => h) (Or.inl ⟨by rfl, ?_⟩) ?_
          rotate_left
          · intro w; go_simp; try with_reducible rfl
          refine wpAny_take (i := 3) (v := ?_) rfl (by kernel_rfl) (by kernel_rfl) (by kernel_rfl) (fun _ _ _ h => h) (Or.inl ⟨by rfl, ?_⟩) ?_
          rotate_left
          · intro w; go_simp; try with_reducible rfl
          refine wpAny_take (i := 4) (v := ?_) rfl (by kernel_rfl) (by kernel_rfl) (by kernel_rfl) (fun _ _ _ h => h) (Or.inl ⟨by rfl, ?_⟩) ?_
          rotate_left
          · intro w; go_simp; try with_reducible rfl
          refine wpAny_take (i := 5) (v := ?_) rfl (by kernel_rfl) (by kernel_rfl) (by kernel_rfl) (fun _ _ _ h => h) (Or.inl ⟨by rfl, ?_⟩) ?_
          rotate_left
          · intro w; go_simp; try with_reducible rfl
          refine wpAny_ready (rs := [6]) (by kernel_rfl) (by simp) ?_
          refine AllReady.cons rfl (fun K hK => ?_) ?_
          · go_simp
            refine hK _ _ ?_; clear hK K
            refine wpAny_ready (rs := [7]) (by kernel_rfl) (by simp) ?_
            refine AllReady.cons rfl (fun K hK => ?_) ?_
            · go_simp
              go_wp2_with fail
              refine HF.out.mono ?_
              rintro e w4 ⟨rfl, rfl⟩
              dsimp only
              refine hK _ _ ?_; clear hK K
              refine wpAny_take (i := 8) (v := ?_) rfl (by kernel_rfl) (by kernel_rfl) (by kernel_rfl) (fun _ _ _ h => h) (Or.inl ⟨by rfl, ?_⟩) ?_
              rotate_left
              · intro w; go_simp; try with_reducible rfl
              refine wpAny_take (i := 9) (v := ?_) rfl (by kernel_rfl) (by kernel_rfl) (by kernel_rfl) (fun _ _ _ h => h) (Or.inl ⟨by rfl, ?_⟩) ?_
              rotate_left
              · intro w; go_simp; try with_reducible rfl
              refine wpAny_take (i := 10) (v := ?_) rfl (by kernel_rfl) (by kernel_rfl) (by kernel_rfl) (fun _ _ _ h => h) (Or.inl ⟨by rfl, ?_⟩) ?_
              rotate_left
              · intro w; go_simp; try with_reducible rfl
              refine wpAny_take (i := 11) (v := ?_) rfl (by kernel_rfl) (by kernel_rfl) (by kernel_rfl) (fun _ _ _ h => h) (Or.inl ⟨by rfl, ?_⟩) ?_
              rotate_left
              · intro w; go_simp; try with_reducible rfl
              refine wpAny_take (i := 12) (v := ?_) rfl (by kernel_rfl) (by kernel_rfl) (by kernel_rfl) (fun _ _ _ h => h) (Or.inl ⟨by rfl, ?_⟩) ?_
              rotate_left
              · intro w; go_simp; try with_reducible rfl
              refine wpAny_done (by kernel_rfl) ?_ _
              go_wp2_with fail
              go_loopw [50] (fun q wr => ∃ k : Nat, k ≤ c.methods.length ∧ q = .int .i64 k ∧ Kept w wr ∧ ∀ m ∈ c.methods.take k, ¬ 8 < m.params.length) (fun q wr => c.methods.length - (intOf q).toNat)
              case atStart => exact ⟨0, Nat.zero_le _, rfl, HK1.out.drew, by simp⟩
              case round =>
                obtain ⟨k, hk, rfl, hkp, hs⟩ := hrel
                by_cases hlt : k < c.methods.length
                · have hltI : (k : Int) < (c.methods.length : Int) := by omega
                  have hp : c.methods[k]? = some c.methods[k] := List.getElem?_eq_getElem hlt
                  obtain ⟨pb, po, e2, hpv⟩ := HAT.out _ _ hp
                  generalize c.methods[k] = m at hp hpv
                  obtain ⟨p0, ⟨pv, p1, pvr⟩, p2, _⟩ := hpv.kept hkp
                  obtain ⟨pva, pvc, rfl, _⟩ := pvr
                  subst e2
                  have HKA := Lib.hid (hkp.alloc (.cells #[.string m.name, .slice pva m.params.length pvc, .string m.res] 53))
                  by_cases h8 : 8 < m.params.length
                  · have h8I : (8 : Int) < (m.params.length : Int) := by omega
                    have HG := Lib.hid (hd_params HC1.out HC2.out HC3.out HC4.out (List.mem_of_getElem? hp) h8)
                    clear hpv hp hs h8 hkp
                    go_wp2_with fail
                    go_ret
                    exact ⟨by rw [HAV.out, HG.out]; rfl, HKA.out⟩
                  · have h8I : ¬ (8 : Int) < (m.params.length : Int) := by omega
                    have HS := Lib.hid (show ∀ m ∈ c.methods.take (k + 1), ¬ 8 < m.params.length by
                      intro y hy
                      rw [List.take_add_one, hp] at hy
                      rcases List.mem_append.1 hy with hy | hy
                      · exact hs y hy
                      · simp at hy; rw [hy]; exact h8)
                    clear hpv hp hs h8 hkp
                    go_wp2_with fail
                    go_roundw
                    case rel => exact ⟨k + 1, by omega, by go_num, HKA.out, HS.out⟩
                    case measure => simp [intOf]; omega
                · have hltI : ¬ (k : Int) < (c.methods.length : Int) := by omega
                  obtain rfl : k = c.methods.length := by omega
                  rw [List.take_length] at hs
                  have HG := Lib.hid (hd_ok HC1.out HC2.out HC3.out HC4.out hs)
                  have HK := Lib.hid hkp
                  clear hs hkp
                  go_wp2_with fail
                  go_ret
                  exact ⟨by rw [HAV.out, HG.out]; rfl, HK.out⟩
            exact AllReady.nil
          exact AllReady.nil

end Go.Proofs.YthooiofaicdhgaaGreatDoor
