/- The contract of table.checkSig. -/
import Derived.Test.YthooiofaicdhgaaGreatDoorCss
set_option linter.unusedSimpArgs false
set_option linter.unusedVariables false
set_option maxRecDepth 100000
namespace Go.Proofs.YthooiofaicdhgaaGreatDoor
open Go.ChangeShapes Go.WideShapes Go.ChangeAt Go.RowKit

theorem chkPs_at {t : List Tab.C} {ps : List Tab.V} {k : Nat} {p : Tab.V} (hp : ps[k]? = some p) : Tab.chkPs t (ps.take k) (ps.drop k) =
    if Tab.chkVar t p = 0 then (if (Tab.ix Tab.V.name (ps.take k) p.name).isSome then 8 else Tab.chkPs t (ps.take (k + 1)) (ps.drop (k + 1))) else Tab.chkVar t p := by
  obtain ⟨hk, rfl⟩ := List.getElem?_eq_some_iff.1 hp
  rw [List.drop_eq_getElem_cons hk, List.take_succ_eq_append_getElem hk]
  rfl

set_option maxHeartbeats 4000000 in
theorem csig_c (l : List Tab.C) (u : Value) (m : Tab.M) (b o : Nat) (w : World) (hT : Tb w) (h : TabAt w u l) (hm : SigAt w b o m) (hpl : m.params.length ≤ 1000) :
    Calls Tryz.prog 150 #[u, .pointer (some ⟨b, o, none⟩)] w fun e w' => e = .returned (.int .i64 (Tab.chkSig l m)) ∧ Kept w w' := by
  have HT := Lib.hid hT
  have HH := Lib.hid h
  have HM := Lib.hid hm
  obtain ⟨ua, uc, rfl, _⟩ := h
  obtain ⟨m0, ⟨v, m1, hv⟩, m2, hs1, hs2⟩ := hm
  have HV := Lib.hid hv
  obtain ⟨va, vc, rfl, _, _, hat⟩ := hv
  have HAT := Lib.hid hat
  have H1 := Lib.hid (name_c m.name w hT hs1)
  have H2 := Lib.hid (fun w' (k : Kept w w') => ctype_c l (.slice ua l.length uc) m.res w' (hT.kept k) hs2 (tab_kept HH.out k))
  clear hat hT
  obtain ⟨av, hav⟩ : ∃ av, av = Tab.chkSig l m := ⟨_, rfl⟩
  rw [← hav]
  have HAV := Lib.hid hav
  clear hav
  cases hn : Wrd.name m.name with
  | false =>
    rw [hn] at H1
    have HE := Lib.hid (show av = 5 by rw [HAV.out]; unfold Tab.chkSig; rw [hn]; rfl)
    clear hn
    go_enter Tryz.func150, Tryz.ntmps150
    go_wp2_with fail
    refine H1.out.mono ?_
    rintro e w1 ⟨rfl, k1⟩
    go_wp2_with fail
    go_ret
    exact ⟨by rw [HE.out]; rfl, k1⟩
  | true =>
    rw [hn] at H1
    have HE := Lib.hid (show av = if Tab.chkPs l [] m.params = 0 then Tab.chkType l m.res else Tab.chkPs l [] m.params by rw [HAV.out]; unfold Tab.chkSig; rw [hn]; rfl)
    clear hn
    go_enter Tryz.func150, Tryz.ntmps150
    go_wp2_with fail
    refine H1.out.mono ?_
    rintro e w1 ⟨rfl, k1⟩
    have c1 := k1.cell m1
    have HK1 := Lib.hid k1
    clear k1
    go_wp2_with fail
    clear c1
    go_loopw [21] (fun q wr => ∃ k : Nat, k ≤ m.params.length ∧ q = .int .i64 k ∧ Kept w wr ∧ Tab.chkPs l [] m.params = Tab.chkPs l (m.params.take k) (m.params.drop k)) (fun q wr => m.params.length - (intOf q).toNat)
    case atStart => exact ⟨0, Nat.zero_le _, rfl, HK1.out, rfl⟩
    case round =>
      obtain ⟨k, hk, rfl, hkp, hs⟩ := hrel
      have c2 := hkp.cell m2
      have c1 := hkp.cell m1
      have c0 := hkp.cell m0
      by_cases hlt : k < m.params.length
      · have hltI : (k : Int) < (m.params.length : Int) := by omega
        have hp : m.params[k]? = some m.params[k] := List.getElem?_eq_getElem hlt
        obtain ⟨pb, po, e2, hpv⟩ := HAT.out _ _ hp
        generalize m.params[k] = p at hp hpv
        subst e2
        rw [chkPs_at hp] at hs
        obtain ⟨p0, p1, hps⟩ := hpv.kept hkp
        have HS := Lib.hid hs
        have HP := Lib.hid hp
        have HKA := Lib.hid (hkp.alloc (.cells #[.string p.name, .string p.typ] 50))
        have HB := Lib.hid (Blk.new wr 50 #[.string p.name, .string p.typ])
        have H3 := Lib.hid (cvar_c l (.slice ua l.length uc) p _ (HT.out.kept HKA.out) hps (tab_kept HH.out HKA.out))
        have HKR := Lib.hid hkp
        clear hs hp hpv hkp
        by_cases hcv : Tab.chkVar l p = 0
        · rw [hcv] at H3
          have HC := Lib.hid hcv
          clear hcv
          go_wp2_with fail
          refine H3.out.mono ?_
          rintro e w3 ⟨rfl, k3⟩
          have hq := (HB.out.kept k3).cell 0
          simp at hq
          have HK3 := Lib.hid (HKA.out.trans k3)
          have d1 := HK3.out.cell m1
          have hkv : k ≤ vc := by obtain ⟨_, c', e, h1, _⟩ := HV.out; injection e with _ e2 e3; omega
          have HF := Lib.hid (tfindVar_c (m.params.take k) (.slice (some ⟨pb, po, none⟩) k vc) p.name w3.drew (Row.take (vars_kept HV.out HK3.out.drew) (by omega)))
          unfold FindPost at HF
          clear k3 H3
          cases hix : Tab.ix Tab.V.name (m.params.take k) p.name with
          | some j =>
            have HG := Lib.hid (show Tab.chkPs l [] m.params = 8 by rw [HS.out, HC.out, hix]; rfl)
            rw [hix] at HF
            simp only [Tab.num, Option.isSome_some] at HF
            clear hix
            go_wp2_with fail
            refine wp_region_any (by kernel_rfl) ?_
            change wpAny _ _ _ _ _ _ _ (World.drew _)
            refine wpAny_take (i := 0) (v := ?_) rfl (by kernel_rfl) (by kernel_rfl) (by kernel_rfl) (fun _ _ _ h => h) (Or.inl ⟨by rfl, ?_⟩) ?_
            rotate_left
            · intro w; go_simp; try with_reducible rfl
            refine wpAny_take (i := 1) (v := ?_) rfl (by kernel_rfl) (by kernel_rfl) (by kernel_rfl) (fun _ _ _ h => h) (Or.inl ⟨by rfl, ?_⟩) ?_
            rotate_left
            · intro w; go_simp; try with_reducible rfl
            refine wpAny_take (i := 2) (v := ?_) rfl (by kernel_rfl) (by kernel_rfl) (by kernel_rfl) (fun _ _ _ h => h) (Or.inl ⟨by rfl, ?_⟩) ?_
            rotate_left
            · intro w; go_simp; try with_reducible rfl
            refine wpAny_take (i := 4) (v := ?_) rfl (by kernel_rfl) (by kernel_rfl) (by kernel_rfl) (fun _ _ _ h => h) (Or.inl ⟨by rfl, ?_⟩) ?_
            rotate_left
            · intro w; go_simp; try with_reducible rfl
            refine wpAny_take (i := 6) (v := ?_) rfl (by kernel_rfl) (by kernel_rfl) (by kernel_rfl) (fun _ _ _ h => h) (Or.inl ⟨by rfl, ?_⟩) ?_
            rotate_left
            · intro w; go_simp; try with_reducible rfl
            refine wpAny_ready (rs := [3, 7]) (by kernel_rfl) (by simp) ?_
            refine AllReady.cons rfl (fun K hK => ?_) ?_
            · go_simp
              refine hK _ _ ?_; clear hK K
              refine wpAny_take (i := 5) (v := ?_) rfl (by kernel_rfl) (by kernel_rfl) (by kernel_rfl) (fun _ _ _ h => h) (Or.inl ⟨by rfl, ?_⟩) ?_
              rotate_left
              · intro w; go_simp; try with_reducible rfl
              refine wpAny_ready (rs := [7]) (by kernel_rfl) (by simp) ?_
              refine AllReady.cons rfl (fun K hK => ?_) ?_
              · go_simp
                refine hK _ _ ?_; clear hK K
                refine wpAny_ready (rs := [8]) (by kernel_rfl) (by simp) ?_
                refine AllReady.cons rfl (fun K hK => ?_) ?_
                · go_simp
                  go_wp2_with fail
                  refine HF.out.mono ?_
                  rintro e w4 ⟨rfl, rfl⟩
                  dsimp only
                  refine hK _ _ ?_; clear hK K
                  refine wpAny_take (i := 9) (v := ?_) rfl (by kernel_rfl) (by kernel_rfl) (by kernel_rfl) (fun _ _ _ h => h) (Or.inl ⟨by rfl, ?_⟩) ?_
                  rotate_left
                  · intro w; go_simp; try with_reducible rfl
                  refine wpAny_take (i := 10) (v := ?_) rfl (by kernel_rfl) (by kernel_rfl) (by kernel_rfl) (fun _ _ _ h => h) (Or.inl ⟨by rfl, ?_⟩) ?_
                  rotate_left
                  · intro w; go_simp; try with_reducible rfl
                  refine wpAny_take (i := 11) (v := ?_) rfl (by kernel_rfl) (by kernel_rfl) (by kernel_rfl) (fun _ _ _ h => h) (Or.inl ⟨by rfl, ?_⟩) ?_
                  rotate_left
                  · intro w; go_simp; try with_reducible rfl
                  refine wpAny_take (i := 12) (v := ?_) rfl (by kernel_rfl) (by kernel_rfl) (by kernel_rfl) (fun _ _ _ h => h) (Or.inl ⟨by rfl, ?_⟩) ?_
                  rotate_left
                  · intro w; go_simp; try with_reducible rfl
                  refine wpAny_take (i := 13) (v := ?_) rfl (by kernel_rfl) (by kernel_rfl) (by kernel_rfl) (fun _ _ _ h => h) (Or.inl ⟨by rfl, ?_⟩) ?_
                  rotate_left
                  · intro w; go_simp; try with_reducible rfl
                  refine wpAny_done (by kernel_rfl) ?_ _
                  go_wp2_with fail
                  go_ret
                  exact ⟨by rw [HE.out, HG.out]; rfl, HK3.out.drew⟩
                exact AllReady.nil
              exact AllReady.nil
            refine AllReady.cons rfl (fun K hK => ?_) ?_
            · go_simp
              refine hK _ _ ?_; clear hK K
              refine wpAny_ready (rs := [3]) (by kernel_rfl) (by simp) ?_
              refine AllReady.cons rfl (fun K hK => ?_) ?_
              · go_simp
                refine hK _ _ ?_; clear hK K
                refine wpAny_take (i := 5) (v := ?_) rfl (by kernel_rfl) (by kernel_rfl) (by kernel_rfl) (fun _ _ _ h => h) (Or.inl ⟨by rfl, ?_⟩) ?_
                rotate_left
                · intro w; go_simp; try with_reducible rfl
                refine wpAny_ready (rs := [8]) (by kernel_rfl) (by simp) ?_
                refine AllReady.cons rfl (fun K hK => ?_) ?_
                · go_simp
                  go_wp2_with fail
                  refine HF.out.mono ?_
                  rintro e w4 ⟨rfl, rfl⟩
                  dsimp only
                  refine hK _ _ ?_; clear hK K
                  refine wpAny_take (i := 9) (v := ?_) rfl (by kernel_rfl) (by kernel_rfl) (by kernel_rfl) (fun _ _ _ h => h) (Or.inl ⟨by rfl, ?_⟩) ?_
                  rotate_left
                  · intro w; go_simp; try with_reducible rfl
                  refine wpAny_take (i := 10) (v := ?_) rfl (by kernel_rfl) (by kernel_rfl) (by kernel_rfl) (fun _ _ _ h => h) (Or.inl ⟨by rfl, ?_⟩) ?_
                  rotate_left
                  · intro w; go_simp; try with_reducible rfl
                  refine wpAny_take (i := 11) (v := ?_) rfl (by kernel_rfl) (by kernel_rfl) (by kernel_rfl) (fun _ _ _ h => h) (Or.inl ⟨by rfl, ?_⟩) ?_
                  rotate_left
                  · intro w; go_simp; try with_reducible rfl
                  refine wpAny_take (i := 12) (v := ?_) rfl (by kernel_rfl) (by kernel_rfl) (by kernel_rfl) (fun _ _ _ h => h) (Or.inl ⟨by rfl, ?_⟩) ?_
                  rotate_left
                  · intro w; go_simp; try with_reducible rfl
                  refine wpAny_take (i := 13) (v := ?_) rfl (by kernel_rfl) (by kernel_rfl) (by kernel_rfl) (fun _ _ _ h => h) (Or.inl ⟨by rfl, ?_⟩) ?_
                  rotate_left
                  · intro w; go_simp; try with_reducible rfl
                  refine wpAny_done (by kernel_rfl) ?_ _
                  go_wp2_with fail
                  go_ret
                  exact ⟨by rw [HE.out, HG.out]; rfl, HK3.out.drew⟩
                exact AllReady.nil
              exact AllReady.nil
            exact AllReady.nil
          | none =>
            have HG := Lib.hid (show Tab.chkPs l [] m.params = Tab.chkPs l (m.params.take (k + 1)) (m.params.drop (k + 1)) by rw [HS.out, HC.out, hix]; rfl)
            rw [hix] at HF
            simp only [Tab.num, Option.isSome_none] at HF
            clear hix
            go_wp2_with fail
            refine wp_region_any (by kernel_rfl) ?_
            change wpAny _ _ _ _ _ _ _ (World.drew _)
            refine wpAny_take (i := 0) (v := ?_) rfl (by kernel_rfl) (by kernel_rfl) (by kernel_rfl) (fun _ _ _ h => h) (Or.inl ⟨by rfl, ?_⟩) ?_
            rotate_left
            · intro w; go_simp; try with_reducible rfl
            refine wpAny_take (i := 1) (v := ?_) rfl (by kernel_rfl) (by kernel_rfl) (by kernel_rfl) (fun _ _ _ h => h) (Or.inl ⟨by rfl, ?_⟩) ?_
            rotate_left
            · intro w; go_simp; try with_reducible rfl
            refine wpAny_take (i := 2) (v := ?_) rfl (by kernel_rfl) (by kernel_rfl) (by kernel_rfl) (fun _ _ _ h => h) (Or.inl ⟨by rfl, ?_⟩) ?_
            rotate_left
            · intro w; go_simp; try with_reducible rfl
            refine wpAny_take (i := 4) (v := ?_) rfl (by kernel_rfl) (by kernel_rfl) (by kernel_rfl) (fun _ _ _ h => h) (Or.inl ⟨by rfl, ?_⟩) ?_
            rotate_left
            · intro w; go_simp; try with_reducible rfl
            refine wpAny_take (i := 6) (v := ?_) rfl (by kernel_rfl) (by kernel_rfl) (by kernel_rfl) (fun _ _ _ h => h) (Or.inl ⟨by rfl, ?_⟩) ?_
            rotate_left
            · intro w; go_simp; try with_reducible rfl
            refine wpAny_ready (rs := [3, 7]) (by kernel_rfl) (by simp) ?_
            refine AllReady.cons rfl (fun K hK => ?_) ?_
            · go_simp
              refine hK _ _ ?_; clear hK K
              refine wpAny_take (i := 5) (v := ?_) rfl (by kernel_rfl) (by kernel_rfl) (by kernel_rfl) (fun _ _ _ h => h) (Or.inl ⟨by rfl, ?_⟩) ?_
              rotate_left
              · intro w; go_simp; try with_reducible rfl
              refine wpAny_ready (rs := [7]) (by kernel_rfl) (by simp) ?_
              refine AllReady.cons rfl (fun K hK => ?_) ?_
              · go_simp
                refine hK _ _ ?_; clear hK K
                refine wpAny_ready (rs := [8]) (by kernel_rfl) (by simp) ?_
                refine AllReady.cons rfl (fun K hK => ?_) ?_
                · go_simp
                  go_wp2_with fail
                  refine HF.out.mono ?_
                  rintro e w4 ⟨rfl, rfl⟩
                  dsimp only
                  refine hK _ _ ?_; clear hK K
                  refine wpAny_take (i := 9) (v := ?_) rfl (by kernel_rfl) (by kernel_rfl) (by kernel_rfl) (fun _ _ _ h => h) (Or.inl ⟨by rfl, ?_⟩) ?_
                  rotate_left
                  · intro w; go_simp; try with_reducible rfl
                  refine wpAny_take (i := 10) (v := ?_) rfl (by kernel_rfl) (by kernel_rfl) (by kernel_rfl) (fun _ _ _ h => h) (Or.inl ⟨by rfl, ?_⟩) ?_
                  rotate_left
                  · intro w; go_simp; try with_reducible rfl
                  refine wpAny_take (i := 11) (v := ?_) rfl (by kernel_rfl) (by kernel_rfl) (by kernel_rfl) (fun _ _ _ h => h) (Or.inl ⟨by rfl, ?_⟩) ?_
                  rotate_left
                  · intro w; go_simp; try with_reducible rfl
                  refine wpAny_take (i := 12) (v := ?_) rfl (by kernel_rfl) (by kernel_rfl) (by kernel_rfl) (fun _ _ _ h => h) (Or.inl ⟨by rfl, ?_⟩) ?_
                  rotate_left
                  · intro w; go_simp; try with_reducible rfl
                  refine wpAny_take (i := 13) (v := ?_) rfl (by kernel_rfl) (by kernel_rfl) (by kernel_rfl) (fun _ _ _ h => h) (Or.inl ⟨by rfl, ?_⟩) ?_
                  rotate_left
                  · intro w; go_simp; try with_reducible rfl
                  refine wpAny_done (by kernel_rfl) ?_ _
                  go_wp2_with fail
                  go_roundw
                  case rel => exact ⟨k + 1, by omega, by go_num, HK3.out.drew, HG.out⟩
                  case measure => simp [intOf]; omega
                exact AllReady.nil
              exact AllReady.nil
            refine AllReady.cons rfl (fun K hK => ?_) ?_
            · go_simp
              refine hK _ _ ?_; clear hK K
              refine wpAny_ready (rs := [3]) (by kernel_rfl) (by simp) ?_
              refine AllReady.cons rfl (fun K hK => ?_) ?_
              · go_simp
                refine hK _ _ ?_; clear hK K
                refine wpAny_take (i := 5) (v := ?_) rfl (by kernel_rfl) (by kernel_rfl) (by kernel_rfl) (fun _ _ _ h => h) (Or.inl ⟨by rfl, ?_⟩) ?_
                rotate_left
                · intro w; go_simp; try with_reducible rfl
                refine wpAny_ready (rs := [8]) (by kernel_rfl) (by simp) ?_
                refine AllReady.cons rfl (fun K hK => ?_) ?_
                · go_simp
                  go_wp2_with fail
                  refine HF.out.mono ?_
                  rintro e w4 ⟨rfl, rfl⟩
                  dsimp only
                  refine hK _ _ ?_; clear hK K
                  refine wpAny_take (i := 9) (v := ?_) rfl (by kernel_rfl) (by kernel_rfl) (by kernel_rfl) (fun _ _ _ h => h) (Or.inl ⟨by rfl, ?_⟩) ?_
                  rotate_left
                  · intro w; go_simp; try with_reducible rfl
                  refine wpAny_take (i := 10) (v := ?_) rfl (by kernel_rfl) (by kernel_rfl) (by kernel_rfl) (fun _ _ _ h => h) (Or.inl ⟨by rfl, ?_⟩) ?_
                  rotate_left
                  · intro w; go_simp; try with_reducible rfl
                  refine wpAny_take (i := 11) (v := ?_) rfl (by kernel_rfl) (by kernel_rfl) (by kernel_rfl) (fun _ _ _ h => h) (Or.inl ⟨by rfl, ?_⟩) ?_
                  rotate_left
                  · intro w; go_simp; try with_reducible rfl
                  refine wpAny_take (i := 12) (v := ?_) rfl (by kernel_rfl) (by kernel_rfl) (by kernel_rfl) (fun _ _ _ h => h) (Or.inl ⟨by rfl, ?_⟩) ?_
                  rotate_left
                  · intro w; go_simp; try with_reducible rfl
                  refine wpAny_take (i := 13) (v := ?_) rfl (by kernel_rfl) (by kernel_rfl) (by kernel_rfl) (fun _ _ _ h => h) (Or.inl ⟨by rfl, ?_⟩) ?_
                  rotate_left
                  · intro w; go_simp; try with_reducible rfl
                  refine wpAny_done (by kernel_rfl) ?_ _
                  go_wp2_with fail
                  go_roundw
                  case rel => exact ⟨k + 1, by omega, by go_num, HK3.out.drew, HG.out⟩
                  case measure => simp [intOf]; omega
                exact AllReady.nil
              exact AllReady.nil
            exact AllReady.nil
        · have HG := Lib.hid (show Tab.chkPs l [] m.params = Tab.chkVar l p by rw [HS.out, if_neg hcv])
          have HN := Lib.hid hcv
          generalize Tab.chkVar l p = z at H3 HG hcv HN
          have hzf : (z != 0) = true := by simpa using hcv
          clear hcv
          go_wp2_with fail
          refine H3.out.mono ?_
          rintro e w3 ⟨rfl, k3⟩
          go_wp2_with fail
          go_ret
          exact ⟨by rw [HE.out, HG.out, if_neg HN.out]; rfl, HKA.out.trans k3⟩
      · have hltI : ¬ (k : Int) < (m.params.length : Int) := by omega
        obtain rfl : k = m.params.length := by omega
        have HG := Lib.hid (show Tab.chkPs l [] m.params = 0 by rw [hs, List.drop_length, List.take_length]; rfl)
        have HK := Lib.hid hkp
        clear hs hlt hkp
        have HZ := Lib.hid (show av = Tab.chkType l m.res by rw [HE.out, if_pos HG.out])
        generalize Tab.chkType l m.res = z at H2 HZ
        go_wp2_with fail
        refine (H2.out _ HK.out).mono ?_
        rintro e w3 ⟨rfl, k3⟩
        go_wp2_with fail
        go_ret
        exact ⟨by rw [HZ.out]; rfl, HK.out.trans k3⟩

end Go.Proofs.YthooiofaicdhgaaGreatDoor
