/- The walk of SubtypeHas over a table that lies in memory. -/
import Derived.Test.YtgnplgcidindkaaDoorSkn
import Derived.Test.YtgnplgcidindkaaDoorLgt
set_option linter.unusedSimpArgs false
set_option linter.unusedVariables false
set_option maxRecDepth 100000
namespace Go.Proofs.YtgnplgcidindkaaDoor
open Go.ChangeShapes Go.WideShapes Go.ChangeAt Go.RowKit

theorem small_short {t : List Tab.C} (h : t.length ≤ 9 ∧ ∀ c ∈ t, ShortC c) : Small t :=
  ⟨by omega, fun c hc => by have := (h.2 c hc).1; omega, fun c hc => by have := (h.2 c hc).2.1; omega, fun c hc m hm => by have := (h.2 c hc).2.2 m hm; unfold ShortM at this; omega⟩

/-- A region's orders come to one act. -/
theorem wp_cut {P : Program} {c : Code} {K : Act → World → Prop} {Q : Exit → Act → World → Prop} {a : Act} {w : World} {A : Act} (F : World → Prop)
    (h : c.wp P (Exit.then (fun a' w' => a' = A ∧ F w') (fun _ _ _ => False)) a w) (hk : ∀ w', F w' → K A w') : c.wp P (Exit.then K Q) a w := by
  refine wp_mono h fun e a' w' hp => ?_
  cases e with
  | normal =>
    obtain ⟨rfl, hf⟩ := hp
    exact hk _ hf
  | _ => exact hp.elim

theorem sub_at {t : List Tab.C} (ho : Tab.ok t = true) {i k : Nat} (hi : i < t.length) (hk : k < t.length) : Tab.sub t (Tab.nth t i).name (Tab.nth t k).name = decide ((Tab.nth t k).name ∈ Tab.up t (Tab.nth t i).name) := by
  have hv := Tab.ok_valid ho
  unfold Tab.sub Tab.ats
  rw [Tab.isT_cls (hv.isC hi), Tab.isT_cls (hv.isC hk), ho]
  rfl

/-- How many of the first j classes are below. -/
def atN (t : List Tab.C) (s : ByteArray) (j : Nat) : Nat := (belL t s j).length

theorem atN_next {t : List Tab.C} {s : ByteArray} {j : Nat} (hj : j < t.length) : atN t s (j + 1) = atN t s j + (if s ∈ Tab.up t (Tab.nth t j).name then 1 else 0) := by
  unfold atN
  rw [belL_next hj, List.length_append]
  by_cases h : s ∈ Tab.up t (Tab.nth t j).name <;> simp [h]
theorem atN_le {t : List Tab.C} {s : ByteArray} {j : Nat} : atN t s j ≤ t.length := belL_len t s j

theorem below_at {t : List Tab.C} (ho : Tab.ok t = true) {k : Nat} (hk : k < t.length) {j : Nat} (hj : j < t.length) (h : (Tab.nth t k).name ∈ Tab.up t (Tab.nth t j).name) : (Tab.below t (Tab.nth t k).name)[atN t (Tab.nth t k).name j]? = some (Tab.nth t j).name := by
  have hv := Tab.ok_valid ho
  unfold Tab.below atN belL
  rw [hv.isC hk, ho]
  exact Tab.filter_at (fun n => decide ((Tab.nth t k).name ∈ Tab.up t n)) (t.map Tab.C.name) j (Tab.nth t j).name (by rw [List.getElem?_map, Tab.of_nth hj]; rfl) (decide_eq_true h)
theorem below_all {t : List Tab.C} (ho : Tab.ok t = true) {k : Nat} (hk : k < t.length) : (Tab.below t (Tab.nth t k).name).length = atN t (Tab.nth t k).name t.length := by
  have hv := Tab.ok_valid ho
  unfold Tab.below atN belL
  rw [hv.isC hk, ho, List.take_of_length_le (by simp)]
  rfl
theorem leaf_at {t : List Tab.C} (ho : Tab.ok t = true) {k : Nat} (hk : k < t.length) : Tab.leaf t (Tab.nth t k).name = decide (atN t (Tab.nth t k).name t.length = 1) := by
  rw [(Tab.ok_valid ho).leaf_len hk ho, below_all ho hk]

set_option maxHeartbeats 8000000 in
theorem has_c (t : List Tab.C) (a : Option Addr) (cp : Nat) (x : Int) (w : World) (hTb : Tb w) (h : TabAt w (.slice a t.length cp) t) (h1 : -9223372036854775808 ≤ x) (h2 : x ≤ 9223372036854775807) :
    Calls Tryd.prog 9 #[.slice a t.length cp, .int .i64 x] w fun e w' => e = .returned (.bool true) ∧ Kept w w' := by
  have HTB := Lib.hid hTb
  have HT := Lib.hid h
  clear hTb h
  have hfd : ∀ (fe fa : Int) (w : World), (Instr.field 51 (.agg #[.int .i64 fe, .int .i64 fa]) 0).run Tryd.prog w = .ok (.int .i64 fe) w := fun _ _ _ => by kernel_rfl
  go_enter Tryd.func9, Tryd.ntmps9
  go_wp2_with fail
  refine (known6_c w HTB.out).mono ?_
  rintro e w1 ⟨rfl, k1⟩
  have HK1 := Lib.hid k1
  have HL := Lib.hid (long_c t (.slice a t.length cp) w1 (tab_kept HT.out k1))
  clear k1
  go_wp2_with fail
  refine HL.out.mono ?_
  rintro e w2 ⟨⟨lb, rfl, hsh⟩, k2⟩
  have HK2 := Lib.hid (HK1.out.trans k2)
  clear k2
  cases lb with
  | true =>
    clear hsh
    go_wp2_with fail
    go_ret
    exact ⟨rfl, HK2.out⟩
  | false =>
    have HSH := Lib.hid (hsh rfl)
    clear hsh
    have HC := Lib.hid (check_c t a cp w2 (HTB.out.kept HK2.out) (tab_kept HT.out HK2.out) (small_short HSH.out))
    obtain ⟨fe, fa, hfe⟩ : ∃ fe fa, Tab.check t = (fe, fa) := ⟨_, _, rfl⟩
    rw [hfe] at HC
    dsimp only at HC
    go_wp2_with fail
    refine HC.out.mono ?_
    rintro e w3 ⟨rfl, k3⟩
    have HK3 := Lib.hid (HK2.out.trans k3)
    clear k3 HC
    by_cases z1 : fe = 0
    · subst z1
      have HO := Lib.hid (show Tab.ok t = true by unfold Tab.ok; rw [hfe]; rfl)
      clear hfe
      by_cases h0 : t.length = 0
      · have h0I : (t.length : Int) = 0 := by omega
        go_wp2_with fail
        go_ret
        exact ⟨rfl, HK3.out⟩
      · have h0I : ¬ (t.length : Int) = 0 := by omega
        have h9 := HSH.out.1
        have HP := Lib.hid (pick_c x t.length w3 (by omega) (by omega) h1 h2)
        go_wp2_with fail
        refine HP.out.mono ?_
        rintro e w4 ⟨⟨i, hi, rfl⟩, rfl⟩
        have hcl := (Row.cellsC (tab_kept HT.out HK3.out) hi)
        obtain ⟨b, o, rfl, hcl⟩ := hcl
        have hiI : (i : Int) < (t.length : Int) := by omega
        have hcp : t.length ≤ cp ∧ cp ≤ 9223372036854775807 := by obtain ⟨_, c', e, h1, h2, _⟩ := HT.out; injection e with _ e2 e3; subst e3; exact ⟨h1, h2⟩
        have c0 := hcl.1
        have HI := Lib.hid hi
        obtain ⟨nm, hnm⟩ : ∃ nm, (Tab.nth t i).name = nm := ⟨_, rfl⟩
        rw [hnm] at c0
        have HSB := Lib.hid (fun (j : Nat) (hj : j < t.length) => hnm ▸ sub_at HO.out hj hi)
        have HBA := Lib.hid (fun (j : Nat) (hj : j < t.length) => hnm ▸ below_at HO.out hi hj)
        have HBL := Lib.hid (hnm ▸ below_all HO.out hi)
        have HLF := Lib.hid (hnm ▸ leaf_at HO.out hi)
        have HAR := Lib.hid (fun (j : Nat) (hj : j < t.length) (hs : nm ∈ Tab.up t (Tab.nth t j).name) (y : ByteArray × Int) (hy : y ∈ Tab.members t nm) => (Tab.ok_valid HO.out).has_arity hj hs hy)
        have HB := Lib.hid (below_c t (some ⟨b, o, none⟩) cp nm w4 (HTB.out.kept HK3.out) (tab_kept HT.out HK3.out) (small_short HSH.out))
        clear hcl HP hnm hi HL
        go_wp2_with fail
        refine HB.out.mono ?_
        rintro e w5 ⟨v5, rfl, hr5, k5⟩
        have HK5 := Lib.hid (HK3.out.trans k5)
        have HR5 := Lib.hid (txt_row hr5)
        obtain ⟨la, lc, rfl⟩ := owns_slice_n hr5
        have hL1 : (Tab.below t nm).length = atN t nm t.length := HBL.out
        have HT5 := Lib.hid (tab_kept HT.out HK5.out)
        rw [hL1]
        have hat9 : atN t nm t.length ≤ 9 := by have := @atN_le t nm t.length; omega
        clear hr5 k5 HB c0 hL1
        go_wp2_with fail
        go_loopw [8, 9] (fun q r wr => ∃ j : Nat, j ≤ t.length ∧ q = .int .i64 (atN t nm j : Int) ∧ r = .int .i64 j ∧ Kept w5 wr) (fun q r wr => t.length - (intOf r).toNat)
        case atStart => exact ⟨0, Nat.zero_le _, rfl, rfl, Kept.refl _⟩
        case round =>
          obtain ⟨j, hj, rfl, rfl, hkp⟩ := hrel
          by_cases hlt : j < t.length
          · have hltI : (j : Int) < (t.length : Int) := by omega
            obtain ⟨b', o', e', hcl⟩ := Row.cellsC (tab_kept HT5.out hkp) hlt
            injection e' with e'
            injection e' with e1 e2
            subst e1 e2
            have y0 := hcl.1
            have hHS := HSB.out j hlt
            have HS := Lib.hid (sub_c t (some ⟨b, o, none⟩) cp (Tab.nth t j).name nm wr (HTB.out.kept (HK5.out.trans hkp)) (tab_kept HT5.out hkp) (small_short HSH.out))
            rw [hHS] at HS
            have HBJ := Lib.hid (HBA.out j hlt)
            have HAJ := Lib.hid (HAR.out j hlt)
            have HAN := Lib.hid (@atN_next t nm j hlt)
            have HCL := Lib.hid hcl
            obtain ⟨nj, hnj⟩ : ∃ nj, (Tab.nth t j).name = nj := ⟨_, rfl⟩
            rw [hnj] at y0 HS HBJ HAJ HAN
            have HNJ := Lib.hid hnj
            have HKP := Lib.hid hkp
            clear hcl hHS hnj hkp
            by_cases hb : nm ∈ Tab.up t nj
            · rw [decide_eq_true hb] at HS
              have hL := HBJ.out hb
              have hlt2 : atN t nm j < atN t nm t.length := by
                have := (List.getElem?_eq_some_iff.1 hL).1
                have e := HBL.out
                omega
              have hlt2I : (atN t nm j : Int) < (atN t nm t.length : Int) := by omega
              obtain ⟨ra, rc, er, hr1, hr2, hrat⟩ := HR5.out
              obtain ⟨rb, ro, e3, hrc⟩ := hrat _ _ hL
              injection er with e4 _ e6
              subst e4 e6 e3
              have HRC := Lib.hid hrc
              have hrl : atN t nm t.length ≤ lc ∧ lc ≤ 9223372036854775807 := by rw [HBL.out] at hr1; unfold maxLen at hr2; omega
              have hn2 : atN t nm (j + 1) = atN t nm j + 1 := by have := HAN.out; rw [if_pos hb] at this; exact this
              have HN2 := Lib.hid hn2
              have HB := Lib.hid hb
              clear hrat hL hb hrc hr1 hr2 hn2
              go_wp2_with fail
              refine HS.out.mono ?_
              rintro e w6 ⟨rfl, k6⟩
              have HK6 := Lib.hid (HKP.out.trans k6)
              have z0 : w6.cell? ⟨rb, ro + atN t nm j, none⟩ = some (.string nj) := by have := (HK6.out.cell HRC.out); simpa using this
              have y1 := k6.cell y0
              have HC6 := Lib.hid k6
              have hbq : (nj.toList == nj.toList) = true := beq_yes rfl
              have hge : ¬ (atN t nm t.length : Int) ≤ (atN t nm j : Int) := by omega
              clear k6 HS y0
              go_wp2_with fail
              apply wp_cut (fun w' => w' = w6.drew)
              case h =>
                refine wp_region_any (by kernel_rfl) ?_
                change wpAny _ _ _ _ _ _ _ (World.drew _)
                refine wpAny_take (i := 0) (v := .int .i64 (atN t nm j : Int)) rfl (by kernel_rfl) (by kernel_rfl) (by kernel_rfl) (fun _ _ _ h => h) (Or.inl ⟨by kernel_rfl, by intro w; kernel_rfl⟩) ?_
                refine wpAny_take (i := 1) (v := .slice (some ⟨rb, ro, none⟩) (atN t nm t.length) lc) rfl (by kernel_rfl) (by kernel_rfl) (by kernel_rfl) (fun _ _ _ h => h) (Or.inl ⟨by kernel_rfl, by intro w; kernel_rfl⟩) ?_
                refine wpAny_ready (rs := [2]) (by kernel_rfl) (by simp) ?_
                refine AllReady.cons rfl (fun K hK => ?_) ?_
                · go_simp
                  refine hK _ _ ?_; clear hK K
                  refine wpAny_take (i := 3) (v := .bool false) rfl (by kernel_rfl) (by kernel_rfl) (by kernel_rfl) (fun _ _ _ h => h) (Or.inl ⟨by kernel_rfl, by intro w; go_simp; try with_reducible rfl⟩) ?_
                  refine wpAny_take (i := 4) (v := .bool false) rfl (by kernel_rfl) (by kernel_rfl) (by kernel_rfl) (fun _ _ _ h => h) (Or.inl ⟨by kernel_rfl, by intro w; kernel_rfl⟩) ?_
                  refine wpAny_take (i := 5) (v := .slice (some ⟨rb, ro, none⟩) (atN t nm t.length) lc) rfl (by kernel_rfl) (by kernel_rfl) (by kernel_rfl) (fun _ _ _ h => h) (Or.inl ⟨by kernel_rfl, by intro w; kernel_rfl⟩) ?_
                  refine wpAny_take (i := 6) (v := .int .i64 (atN t nm j : Int)) rfl (by kernel_rfl) (by kernel_rfl) (by kernel_rfl) (fun _ _ _ h => h) (Or.inl ⟨by kernel_rfl, by intro w; kernel_rfl⟩) ?_
                  refine wpAny_take (i := 7) (v := .pointer (some ⟨rb, ro + atN t nm j, none⟩)) rfl (by kernel_rfl) (by kernel_rfl) (by kernel_rfl) (fun _ _ _ h => h) (Or.inl ⟨by kernel_rfl, by intro w; go_simp; try with_reducible rfl⟩) ?_
                  refine wpAny_take (i := 9) (v := .slice (some ⟨b, o, none⟩) t.length cp) rfl (by kernel_rfl) (by kernel_rfl) (by kernel_rfl) (fun _ _ _ h => h) (Or.inl ⟨by kernel_rfl, by intro w; kernel_rfl⟩) ?_
                  refine wpAny_take (i := 10) (v := .int .i64 (j : Int)) rfl (by kernel_rfl) (by kernel_rfl) (by kernel_rfl) (fun _ _ _ h => h) (Or.inl ⟨by kernel_rfl, by intro w; kernel_rfl⟩) ?_
                  refine wpAny_take (i := 11) (v := .pointer (some ⟨b, o + j * 4, none⟩)) rfl (by kernel_rfl) (by kernel_rfl) (by kernel_rfl) (fun _ _ _ h => h) (Or.inl ⟨by kernel_rfl, by intro w; go_simp; try with_reducible rfl⟩) ?_
                  refine wpAny_take (i := 12) (v := .pointer (some ⟨b, o + j * 4, none⟩)) rfl (by kernel_rfl) (by kernel_rfl) (by kernel_rfl) (fun _ _ _ h => h) (Or.inl ⟨by kernel_rfl, by intro w; kernel_rfl⟩) ?_
                  refine wpAny_ready (rs := [8, 13]) (by kernel_rfl) (by simp) ?_
                  refine AllReady.cons rfl (fun K hK => ?_) ?_
                  · go_simp
                    refine hK _ _ ?_; clear hK K
                    refine wpAny_ready (rs := [13]) (by kernel_rfl) (by simp) ?_
                    refine AllReady.cons rfl (fun K hK => ?_) ?_
                    · go_simp
                      refine hK _ _ ?_; clear hK K
                      refine wpAny_take (i := 14) (v := .bool false) rfl (by kernel_rfl) (by kernel_rfl) (by kernel_rfl) (fun _ _ _ h => h) (Or.inl ⟨by kernel_rfl, by intro w; go_simp; try with_reducible rfl⟩) ?_
                      refine wpAny_take (i := 15) (v := .bool false) rfl (by kernel_rfl) (by kernel_rfl) (by kernel_rfl) (fun _ _ _ h => h) (Or.inl ⟨by kernel_rfl, by intro w; kernel_rfl⟩) ?_
                      refine wpAny_done (by kernel_rfl) ?_ _
                      refine ⟨?_, rfl⟩
                      go_simp
                      try rfl
                    exact AllReady.nil
                  refine AllReady.cons rfl (fun K hK => ?_) ?_
                  · go_simp
                    refine hK _ _ ?_; clear hK K
                    refine wpAny_ready (rs := [8]) (by kernel_rfl) (by simp) ?_
                    refine AllReady.cons rfl (fun K hK => ?_) ?_
                    · go_simp
                      refine hK _ _ ?_; clear hK K
                      refine wpAny_take (i := 14) (v := .bool false) rfl (by kernel_rfl) (by kernel_rfl) (by kernel_rfl) (fun _ _ _ h => h) (Or.inl ⟨by kernel_rfl, by intro w; go_simp; try with_reducible rfl⟩) ?_
                      refine wpAny_take (i := 15) (v := .bool false) rfl (by kernel_rfl) (by kernel_rfl) (by kernel_rfl) (fun _ _ _ h => h) (Or.inl ⟨by kernel_rfl, by intro w; kernel_rfl⟩) ?_
                      refine wpAny_done (by kernel_rfl) ?_ _
                      refine ⟨?_, rfl⟩
                      go_simp
                      try rfl
                    exact AllReady.nil
                  exact AllReady.nil
                exact AllReady.nil
              case hk =>
                rintro w7 rfl
                have HK7 := Lib.hid (HK6.out.drew)
                have HM := Lib.hid (members_c (some ⟨b, o, none⟩) cp t nm w6.drew (tab_kept HT5.out HK7.out) (small_short HSH.out))
                clear z0 y1
                go_wp2_with fail
                refine HM.out.mono ?_
                rintro e w8 ⟨v8, rfl, hr8, k8⟩
                have hrow := mem_row hr8
                have HK8 := Lib.hid (HK7.out.trans k8)
                have HC8 := Lib.hid (HC6.out.drew.trans k8)
                obtain ⟨ma, mc, rfl⟩ := owns_slice_n hr8
                have HAJ2 := Lib.hid (HAJ.out HB.out)
                obtain ⟨l, hl⟩ : ∃ l, Tab.members t nm = l := ⟨_, rfl⟩
                rw [hl] at hrow HAJ2
                rw [hl]
                obtain ⟨ma', mc', e, r1, r2, rat⟩ := hrow
                injection e with e1 _ e3
                subst e1 e3
                unfold maxLen at r2
                have HRA := Lib.hid rat
                have HT8 := Lib.hid (tab_kept HT5.out HK8.out)
                clear hr8 k8 HM rat hl
                go_wp2_with fail
                go_loopw [11] (fun q wr => ∃ k : Nat, k ≤ l.length ∧ q = .int .i64 k ∧ Kept w8 wr) (fun q wr => l.length - (intOf q).toNat)
                case atStart => exact ⟨0, Nat.zero_le _, rfl, Kept.refl _⟩
                case round =>
                  obtain ⟨k, hk, rfl, hkp⟩ := hrel
                  have HKP8 := Lib.hid hkp
                  by_cases hlk : k < l.length
                  · have hlkI : (k : Int) < (l.length : Int) := by omega
                    have hx : l[k]? = some l[k] := List.getElem?_eq_getElem hlk
                    obtain ⟨mb, mo, rfl, hm⟩ := HRA.out _ _ hx
                    have HTL := Lib.hid (HAJ2.out _ (List.mem_of_getElem? hx))
                    generalize l[k] = y at hx HTL hm
                    have HMM := Lib.hid hm
                    obtain ⟨wo, rfl⟩ : ∃ wo, wo = wr := ⟨_, rfl⟩
                    have y1 := hkp.cell hm.1
                    have y3 := (HCL.out.kept (HC8.out.trans HKP8.out)).1
                    rw [HNJ.out] at y3
                    clear hx hm hkp
                    go_wp2_with fail
                    have HA := Lib.hid (arity_c (some ⟨b, o, none⟩) cp t nj y.1 wo.drew (tab_kept HT8.out HKP8.out.drew) (small_short HSH.out))
                    rw [HTL.out.1] at HA
                    simp only [Option.getD_some, Option.isSome_some] at HA
                    apply wp_cut (fun w' => Kept wo.drew w')
                    case h =>
                      refine wp_region_any (by kernel_rfl) ?_
                      change wpAny _ _ _ _ _ _ _ (World.drew _)
                      refine wpAny_take (i := 0) (v := .slice (some ⟨b, o, none⟩) t.length cp) rfl (by kernel_rfl) (by kernel_rfl) (by kernel_rfl) (fun _ _ _ h => h) (Or.inl ⟨by kernel_rfl, by intro w; kernel_rfl⟩) ?_
                      refine wpAny_take (i := 1) (v := .slice (some ⟨b, o, none⟩) t.length cp) rfl (by kernel_rfl) (by kernel_rfl) (by kernel_rfl) (fun _ _ _ h => h) (Or.inl ⟨by kernel_rfl, by intro w; kernel_rfl⟩) ?_
                      refine wpAny_take (i := 2) (v := .int .i64 (j : Int)) rfl (by kernel_rfl) (by kernel_rfl) (by kernel_rfl) (fun _ _ _ h => h) (Or.inl ⟨by kernel_rfl, by intro w; kernel_rfl⟩) ?_
                      refine wpAny_take (i := 3) (v := .pointer (some ⟨b, o + j * 4, none⟩)) rfl (by kernel_rfl) (by kernel_rfl) (by kernel_rfl) (fun _ _ _ h => h) (Or.inl ⟨by kernel_rfl, by intro w; go_simp; try with_reducible rfl⟩) ?_
                      refine wpAny_take (i := 4) (v := .pointer (some ⟨b, o + j * 4, none⟩)) rfl (by kernel_rfl) (by kernel_rfl) (by kernel_rfl) (fun _ _ _ h => h) (Or.inl ⟨by kernel_rfl, by intro w; kernel_rfl⟩) ?_
                      refine wpAny_take (i := 6) (v := .slice (some ⟨mb, mo, none⟩) l.length mc) rfl (by kernel_rfl) (by kernel_rfl) (by kernel_rfl) (fun _ _ _ h => h) (Or.inl ⟨by kernel_rfl, by intro w; kernel_rfl⟩) ?_
                      refine wpAny_take (i := 7) (v := .int .i64 (k : Int)) rfl (by kernel_rfl) (by kernel_rfl) (by kernel_rfl) (fun _ _ _ h => h) (Or.inl ⟨by kernel_rfl, by intro w; kernel_rfl⟩) ?_
                      refine wpAny_take (i := 8) (v := .pointer (some ⟨mb, mo + k * 2, none⟩)) rfl (by kernel_rfl) (by kernel_rfl) (by kernel_rfl) (fun _ _ _ h => h) (Or.inl ⟨by kernel_rfl, by intro w; go_simp; try with_reducible rfl⟩) ?_
                      refine wpAny_take (i := 9) (v := .pointer (some ⟨mb, mo + k * 2, none⟩)) rfl (by kernel_rfl) (by kernel_rfl) (by kernel_rfl) (fun _ _ _ h => h) (Or.inl ⟨by kernel_rfl, by intro w; kernel_rfl⟩) ?_
                      refine wpAny_ready (rs := [5, 10]) (by kernel_rfl) (by simp) ?_
                      refine AllReady.cons rfl (fun K hK => ?_) ?_
                      · go_simp
                        refine hK _ _ ?_; clear hK K
                        refine wpAny_ready (rs := [10]) (by kernel_rfl) (by simp) ?_
                        refine AllReady.cons rfl (fun K hK => ?_) ?_
                        · go_simp
                          refine hK _ _ ?_; clear hK K
                          refine wpAny_ready (rs := [11]) (by kernel_rfl) (by simp) ?_
                          refine AllReady.cons rfl (fun K hK => ?_) ?_
                          · go_simp
                            go_wp2_with fail
                            refine HA.out.mono ?_
                            rintro e w7 ⟨rfl, k7⟩
                            have HK7 := Lib.hid k7
                            clear k7
                            dsimp only
                            refine hK _ _ ?_; clear hK K
                            refine wpAny_take (i := 12) (v := .tuple #[.int .i64 y.2, .bool true]) rfl (by kernel_rfl) (by kernel_rfl) (by kernel_rfl) (fun _ _ _ h => h) (Or.inl ⟨by kernel_rfl, by intro w; kernel_rfl⟩) ?_
                            refine wpAny_take (i := 13) (v := .int .i64 y.2) rfl (by kernel_rfl) (by kernel_rfl) (by kernel_rfl) (fun _ _ _ h => h) (Or.inl ⟨by kernel_rfl, by intro w; kernel_rfl⟩) ?_
                            refine wpAny_take (i := 14) (v := .bool true) rfl (by kernel_rfl) (by kernel_rfl) (by kernel_rfl) (fun _ _ _ h => h) (Or.inl ⟨by kernel_rfl, by intro w; kernel_rfl⟩) ?_
                            refine wpAny_take (i := 15) (v := .int .i64 y.2) rfl (by kernel_rfl) (by kernel_rfl) (by kernel_rfl) (fun _ _ _ h => h) (Or.inl ⟨by kernel_rfl, by intro w; kernel_rfl⟩) ?_
                            refine wpAny_take (i := 16) (v := .bool true) rfl (by kernel_rfl) (by kernel_rfl) (by kernel_rfl) (fun _ _ _ h => h) (Or.inl ⟨by kernel_rfl, by intro w; kernel_rfl⟩) ?_
                            refine wpAny_done (by kernel_rfl) ?_ _
                            refine ⟨?_, HK7.out⟩
                            go_simp
                            try rfl
                          exact AllReady.nil
                        exact AllReady.nil
                      refine AllReady.cons rfl (fun K hK => ?_) ?_
                      · go_simp
                        refine hK _ _ ?_; clear hK K
                        refine wpAny_ready (rs := [5]) (by kernel_rfl) (by simp) ?_
                        refine AllReady.cons rfl (fun K hK => ?_) ?_
                        · go_simp
                          refine hK _ _ ?_; clear hK K
                          refine wpAny_ready (rs := [11]) (by kernel_rfl) (by simp) ?_
                          refine AllReady.cons rfl (fun K hK => ?_) ?_
                          · go_simp
                            go_wp2_with fail
                            refine HA.out.mono ?_
                            rintro e w7 ⟨rfl, k7⟩
                            have HK7 := Lib.hid k7
                            clear k7
                            dsimp only
                            refine hK _ _ ?_; clear hK K
                            refine wpAny_take (i := 12) (v := .tuple #[.int .i64 y.2, .bool true]) rfl (by kernel_rfl) (by kernel_rfl) (by kernel_rfl) (fun _ _ _ h => h) (Or.inl ⟨by kernel_rfl, by intro w; kernel_rfl⟩) ?_
                            refine wpAny_take (i := 13) (v := .int .i64 y.2) rfl (by kernel_rfl) (by kernel_rfl) (by kernel_rfl) (fun _ _ _ h => h) (Or.inl ⟨by kernel_rfl, by intro w; kernel_rfl⟩) ?_
                            refine wpAny_take (i := 14) (v := .bool true) rfl (by kernel_rfl) (by kernel_rfl) (by kernel_rfl) (fun _ _ _ h => h) (Or.inl ⟨by kernel_rfl, by intro w; kernel_rfl⟩) ?_
                            refine wpAny_take (i := 15) (v := .int .i64 y.2) rfl (by kernel_rfl) (by kernel_rfl) (by kernel_rfl) (fun _ _ _ h => h) (Or.inl ⟨by kernel_rfl, by intro w; kernel_rfl⟩) ?_
                            refine wpAny_take (i := 16) (v := .bool true) rfl (by kernel_rfl) (by kernel_rfl) (by kernel_rfl) (fun _ _ _ h => h) (Or.inl ⟨by kernel_rfl, by intro w; kernel_rfl⟩) ?_
                            refine wpAny_done (by kernel_rfl) ?_ _
                            refine ⟨?_, HK7.out⟩
                            go_simp
                            try rfl
                          exact AllReady.nil
                        exact AllReady.nil
                      exact AllReady.nil
                    case hk =>
                      intro w9 k9
                      have HK9 := Lib.hid (HKP8.out.drew.trans k9)
                      have y4 := HK9.out.cell HMM.out.1
                      have HF1 := Lib.hid (field_c (some ⟨b, o, none⟩) cp t nm y.1 w9 (tab_kept HT8.out HK9.out) (by have := HSH.out.1; omega))
                      clear k9 y1 y3 HA
                      go_wp2_with fail
                      refine HF1.out.mono ?_
                      rintro e w10 ⟨rfl, k10⟩
                      have HK10 := Lib.hid (HK9.out.trans k10)
                      clear k10 HF1 y4
                      have y5 := HK10.out.cell HMM.out.1
                      have y6 := (HCL.out.kept (HC8.out.trans HK10.out)).1
                      rw [HNJ.out] at y6
                      have HF2 := Lib.hid (field_c (some ⟨b, o, none⟩) cp t nj y.1 w10.drew (tab_kept HT8.out HK10.out.drew) (by have := HSH.out.1; omega))
                      rw [HTL.out.2] at HF2
                      go_wp2_with fail
                      apply wp_cut (fun w' => Kept w10.drew w')
                      case h =>
                        refine wp_region_any (by kernel_rfl) ?_
                        change wpAny _ _ _ _ _ _ _ (World.drew _)
                        refine wpAny_take (i := 0) (v := .slice (some ⟨b, o, none⟩) t.length cp) rfl (by kernel_rfl) (by kernel_rfl) (by kernel_rfl) (fun _ _ _ h => h) (Or.inl ⟨by kernel_rfl, by intro w; kernel_rfl⟩) ?_
                        refine wpAny_take (i := 1) (v := .slice (some ⟨b, o, none⟩) t.length cp) rfl (by kernel_rfl) (by kernel_rfl) (by kernel_rfl) (fun _ _ _ h => h) (Or.inl ⟨by kernel_rfl, by intro w; kernel_rfl⟩) ?_
                        refine wpAny_take (i := 2) (v := .int .i64 (j : Int)) rfl (by kernel_rfl) (by kernel_rfl) (by kernel_rfl) (fun _ _ _ h => h) (Or.inl ⟨by kernel_rfl, by intro w; kernel_rfl⟩) ?_
                        refine wpAny_take (i := 3) (v := .pointer (some ⟨b, o + j * 4, none⟩)) rfl (by kernel_rfl) (by kernel_rfl) (by kernel_rfl) (fun _ _ _ h => h) (Or.inl ⟨by kernel_rfl, by intro w; go_simp; try with_reducible rfl⟩) ?_
                        refine wpAny_take (i := 4) (v := .pointer (some ⟨b, o + j * 4, none⟩)) rfl (by kernel_rfl) (by kernel_rfl) (by kernel_rfl) (fun _ _ _ h => h) (Or.inl ⟨by kernel_rfl, by intro w; kernel_rfl⟩) ?_
                        refine wpAny_take (i := 6) (v := .slice (some ⟨mb, mo, none⟩) l.length mc) rfl (by kernel_rfl) (by kernel_rfl) (by kernel_rfl) (fun _ _ _ h => h) (Or.inl ⟨by kernel_rfl, by intro w; kernel_rfl⟩) ?_
                        refine wpAny_take (i := 7) (v := .int .i64 (k : Int)) rfl (by kernel_rfl) (by kernel_rfl) (by kernel_rfl) (fun _ _ _ h => h) (Or.inl ⟨by kernel_rfl, by intro w; kernel_rfl⟩) ?_
                        refine wpAny_take (i := 8) (v := .pointer (some ⟨mb, mo + k * 2, none⟩)) rfl (by kernel_rfl) (by kernel_rfl) (by kernel_rfl) (fun _ _ _ h => h) (Or.inl ⟨by kernel_rfl, by intro w; go_simp; try with_reducible rfl⟩) ?_
                        refine wpAny_take (i := 9) (v := .pointer (some ⟨mb, mo + k * 2, none⟩)) rfl (by kernel_rfl) (by kernel_rfl) (by kernel_rfl) (fun _ _ _ h => h) (Or.inl ⟨by kernel_rfl, by intro w; kernel_rfl⟩) ?_
                        refine wpAny_ready (rs := [5, 10]) (by kernel_rfl) (by simp) ?_
                        refine AllReady.cons rfl (fun K hK => ?_) ?_
                        · go_simp
                          refine hK _ _ ?_; clear hK K
                          refine wpAny_ready (rs := [10]) (by kernel_rfl) (by simp) ?_
                          refine AllReady.cons rfl (fun K hK => ?_) ?_
                          · go_simp
                            refine hK _ _ ?_; clear hK K
                            refine wpAny_ready (rs := [11]) (by kernel_rfl) (by simp) ?_
                            refine AllReady.cons rfl (fun K hK => ?_) ?_
                            · go_simp
                              go_wp2_with fail
                              refine HF2.out.mono ?_
                              rintro e w7 ⟨rfl, k7⟩
                              have HK7 := Lib.hid k7
                              clear k7
                              dsimp only
                              refine hK _ _ ?_; clear hK K
                              refine wpAny_take (i := 12) (v := .tuple #[.string ((Tab.field t nm y.1).getD ⟨#[]⟩), .bool (Tab.field t nm y.1).isSome]) rfl (by kernel_rfl) (by kernel_rfl) (by kernel_rfl) (fun _ _ _ h => h) (Or.inl ⟨by kernel_rfl, by intro w; kernel_rfl⟩) ?_
                              refine wpAny_take (i := 13) (v := .string ((Tab.field t nm y.1).getD ⟨#[]⟩)) rfl (by kernel_rfl) (by kernel_rfl) (by kernel_rfl) (fun _ _ _ h => h) (Or.inl ⟨by kernel_rfl, by intro w; kernel_rfl⟩) ?_
                              refine wpAny_take (i := 14) (v := .bool (Tab.field t nm y.1).isSome) rfl (by kernel_rfl) (by kernel_rfl) (by kernel_rfl) (fun _ _ _ h => h) (Or.inl ⟨by kernel_rfl, by intro w; kernel_rfl⟩) ?_
                              refine wpAny_take (i := 15) (v := .string ((Tab.field t nm y.1).getD ⟨#[]⟩)) rfl (by kernel_rfl) (by kernel_rfl) (by kernel_rfl) (fun _ _ _ h => h) (Or.inl ⟨by kernel_rfl, by intro w; kernel_rfl⟩) ?_
                              refine wpAny_take (i := 16) (v := .bool (Tab.field t nm y.1).isSome) rfl (by kernel_rfl) (by kernel_rfl) (by kernel_rfl) (fun _ _ _ h => h) (Or.inl ⟨by kernel_rfl, by intro w; kernel_rfl⟩) ?_
                              refine wpAny_done (by kernel_rfl) ?_ _
                              refine ⟨?_, HK7.out⟩
                              go_simp
                              try rfl
                            exact AllReady.nil
                          exact AllReady.nil
                        refine AllReady.cons rfl (fun K hK => ?_) ?_
                        · go_simp
                          refine hK _ _ ?_; clear hK K
                          refine wpAny_ready (rs := [5]) (by kernel_rfl) (by simp) ?_
                          refine AllReady.cons rfl (fun K hK => ?_) ?_
                          · go_simp
                            refine hK _ _ ?_; clear hK K
                            refine wpAny_ready (rs := [11]) (by kernel_rfl) (by simp) ?_
                            refine AllReady.cons rfl (fun K hK => ?_) ?_
                            · go_simp
                              go_wp2_with fail
                              refine HF2.out.mono ?_
                              rintro e w7 ⟨rfl, k7⟩
                              have HK7 := Lib.hid k7
                              clear k7
                              dsimp only
                              refine hK _ _ ?_; clear hK K
                              refine wpAny_take (i := 12) (v := .tuple #[.string ((Tab.field t nm y.1).getD ⟨#[]⟩), .bool (Tab.field t nm y.1).isSome]) rfl (by kernel_rfl) (by kernel_rfl) (by kernel_rfl) (fun _ _ _ h => h) (Or.inl ⟨by kernel_rfl, by intro w; kernel_rfl⟩) ?_
                              refine wpAny_take (i := 13) (v := .string ((Tab.field t nm y.1).getD ⟨#[]⟩)) rfl (by kernel_rfl) (by kernel_rfl) (by kernel_rfl) (fun _ _ _ h => h) (Or.inl ⟨by kernel_rfl, by intro w; kernel_rfl⟩) ?_
                              refine wpAny_take (i := 14) (v := .bool (Tab.field t nm y.1).isSome) rfl (by kernel_rfl) (by kernel_rfl) (by kernel_rfl) (fun _ _ _ h => h) (Or.inl ⟨by kernel_rfl, by intro w; kernel_rfl⟩) ?_
                              refine wpAny_take (i := 15) (v := .string ((Tab.field t nm y.1).getD ⟨#[]⟩)) rfl (by kernel_rfl) (by kernel_rfl) (by kernel_rfl) (fun _ _ _ h => h) (Or.inl ⟨by kernel_rfl, by intro w; kernel_rfl⟩) ?_
                              refine wpAny_take (i := 16) (v := .bool (Tab.field t nm y.1).isSome) rfl (by kernel_rfl) (by kernel_rfl) (by kernel_rfl) (fun _ _ _ h => h) (Or.inl ⟨by kernel_rfl, by intro w; kernel_rfl⟩) ?_
                              refine wpAny_done (by kernel_rfl) ?_ _
                              refine ⟨?_, HK7.out⟩
                              go_simp
                              try rfl
                            exact AllReady.nil
                          exact AllReady.nil
                        exact AllReady.nil
                      case hk =>
                        intro w11 k11
                        have HK11 := Lib.hid (HK10.out.drew.trans k11)
                        have y7 := HK11.out.cell HMM.out.2
                        have hq : ((Tab.field t nm y.1).getD ⟨#[]⟩).toList == ((Tab.field t nm y.1).getD ⟨#[]⟩).toList := beq_yes rfl
                        generalize (Tab.field t nm y.1).getD ⟨#[]⟩ = fx at *
                        clear k11 y5 y6 HF2
                        go_wp2_with fail
                        go_roundw
                        case rel => exact ⟨k + 1, by omega, by go_num, HK11.out⟩
                        case measure => simp [intOf]; omega
                  · have hlkI : ¬ (k : Int) < (l.length : Int) := by omega
                    clear hkp
                    go_wp2_with fail
                    go_roundw
                    case rel => exact ⟨j + 1, by omega, by rw [HN2.out]; go_num, by go_num, HK8.out.trans HKP8.out⟩
                    case measure => simp [intOf]; omega
            · rw [decide_eq_false hb] at HS
              have hn2 : atN t nm (j + 1) = atN t nm j := by have := HAN.out; rw [if_neg hb] at this; omega
              have HN2 := Lib.hid hn2
              clear hb hn2
              go_wp2_with fail
              refine HS.out.mono ?_
              rintro e w6 ⟨rfl, k6⟩
              have HK6 := Lib.hid (HKP.out.trans k6)
              clear k6 HS
              go_wp2_with fail
              go_roundw
              case rel => exact ⟨j + 1, by omega, by rw [HN2.out], by go_num, HK6.out⟩
              case measure => simp [intOf]; omega
          · have hltI : ¬ (j : Int) < (t.length : Int) := by omega
            obtain rfl : j = t.length := by omega
            have HKP := Lib.hid (HK5.out.trans hkp)
            have HLC := Lib.hid (leaf_c t (some ⟨b, o, none⟩) cp nm wr (HTB.out.kept HKP.out) (tab_kept HT.out HKP.out) (small_short HSH.out))
            rw [HLF.out] at HLC
            clear hkp
            by_cases h1 : atN t nm t.length = 1
            · rw [decide_eq_true h1] at HLC
              have h1I : ((atN t nm t.length : Int) == 1) = true := by rw [h1]; rfl
              go_wp2_with fail
              refine HLC.out.mono ?_
              rintro e w6 ⟨rfl, k6⟩
              go_wp2_with fail
              go_ret
              exact ⟨by first | rfl | simp [h1], HKP.out.trans k6⟩
            · rw [decide_eq_false h1] at HLC
              have h1I : ((atN t nm t.length : Int) == 1) = false := by simp; omega
              go_wp2_with fail
              refine HLC.out.mono ?_
              rintro e w6 ⟨rfl, k6⟩
              go_wp2_with fail
              go_ret
              exact ⟨by first | rfl | simp [h1I], HKP.out.trans k6⟩
    · have z1b : (fe == 0) = false := by simp [z1]
      go_wp2_with fail
      go_ret
      exact ⟨rfl, HK3.out⟩

end Go.Proofs.YtgnplgcidindkaaDoor
