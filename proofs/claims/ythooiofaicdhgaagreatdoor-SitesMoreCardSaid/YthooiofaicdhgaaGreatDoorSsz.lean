/- The law SitesMore: its walk over any table and any sites; the helper CopySites. -/
import Derived.Test.YthooiofaicdhgaaGreatDoorSsx
import Derived.Test.YthooiofaicdhgaaGreatDoorMem
set_option linter.unusedSimpArgs false
set_option linter.unusedVariables false
set_option maxRecDepth 100000
namespace Go.Proofs.YthooiofaicdhgaaGreatDoor
open Go.ChangeShapes Go.WideShapes Go.ChangeAt Go.RowKit

def sCells (x : Tab.St) : List Value := [.int .i64 x.what, .string x.a, .string x.b]
theorem sCells_len (x : Tab.St) : (sCells x).length = 3 := rfl
theorem info_site : (Tryz.prog.info? 80).map (fun i => (i.zero, i.size, i.bytes)) = some (some (.agg #[.int .i64 0, .string ⟨#[]⟩, .string ⟨#[]⟩]), 3, 40) := by kernel_rfl
theorem rown_geS {w : World} {base k n : Nat} {e : TypeId} {v : Value} {xs : List Value} (h : w.ownsRow base e k v n xs) {g : Nat} (hg : v.ownBlock = some g) : base ≤ g := by
  rcases h.2 with ⟨rfl, _⟩ | ⟨g', cap, cur, rfl, hb, hgg, _⟩
  · cases hg
  · obtain rfl : g' = g := Option.some.inj hg
    exact hb
theorem own_emptyS (W : World) (e : TypeId) (k n : Nat) (hn : n = W.heap.size) : (W.alloc (.cells #[] e)).ownsRow n e k (.slice (some ⟨n, 0, none⟩) 0 0) 0 [] := by
  subst hn
  exact ⟨by simp, .inr ⟨W.heap.size, 0, #[], rfl, Nat.le_refl _, Blk.new W _ _, Nat.le_refl _, by decide, by simp, by simp⟩⟩

theorem src_sites {w : World} {v : Value} {l : List Tab.St} (h : SitesAt w v l) : Src Tryz.prog 3 62 v l.length (l.flatMap sCells) w := by
  obtain ⟨a, c, rfl, h1, h2, h3⟩ := h
  cases a with
  | none =>
    cases l with
    | nil => exact Src.ofNil w Tryz.underlying62 c
    | cons x r =>
      obtain ⟨b, o, e, _⟩ := h3 0 x rfl
      cases e
  | some ad =>
    refine Src.ofSlice w Tryz.underlying62 ad l.length c _ (flat_len sCells sCells_len l) ?_ ?_
    · intro j u hu
      have hj : j < l.length * 3 := by
        have := (List.getElem?_eq_some_iff.1 hu).1
        rwa [flat_len sCells sCells_len l] at this
      have hx : l[j / 3]? = some l[j / 3] := List.getElem?_eq_getElem (by omega)
      obtain ⟨b, o, e, hv⟩ := h3 _ _ hx
      cases e
      have hr : j % 3 < 3 := Nat.mod_lt _ (by omega)
      have hd : j / 3 * 3 + j % 3 = j := by omega
      have hf := flat_at sCells sCells_len l (j / 3) (j % 3) _ hx hr
      rw [hd, hu] at hf
      generalize l[j / 3] = x at hv hf
      rw [addr_plain]
      have h3' : j % 3 = 0 ∨ j % 3 = 1 ∨ j % 3 = 2 := by omega
      rcases h3' with e | e | e
      · rw [e] at hf
        obtain rfl : u = .int .i64 x.what := by simpa [sCells] using hf
        rw [show o + j = o + j / 3 * 3 by omega]
        exact hv.1
      · rw [e] at hf
        obtain rfl : u = .string x.a := by simpa [sCells] using hf
        rw [show o + j = o + j / 3 * 3 + 1 by omega]
        exact hv.2.1
      · rw [e] at hf
        obtain rfl : u = .string x.b := by simpa [sCells] using hf
        rw [show o + j = o + j / 3 * 3 + 2 by omega]
        exact hv.2.2.1
    · intro u hu
      obtain ⟨x, _, hx⟩ := List.mem_flatMap.1 hu
      simp [sCells] at hx
      rcases hx with rfl | rfl | rfl <;> rfl
theorem owns_sites {w : World} {base : Nat} {v : Value} {l : List Tab.St} (h : w.ownsRow base 80 3 v l.length (l.flatMap sCells)) (hz : ∀ x ∈ l, x.a.size ≤ maxLen ∧ x.b.size ≤ maxLen) : SitesAt w v l := by
  rcases h.2 with ⟨rfl, hl0⟩ | ⟨g, cap, cur, rfl, hg1, hg2, hg3, hg4, hg5, hg6⟩
  · obtain rfl : l = [] := List.eq_nil_of_length_eq_zero hl0
    exact Row.nil
  · refine ⟨_, cap, rfl, hg3, hg4, fun i x hx => ⟨g, 0, rfl, ?_⟩⟩
    have c0 := h.cells (g := g) rfl _ _ (flat_at sCells sCells_len l i 0 x hx (by omega))
    have c1 := h.cells (g := g) rfl _ _ (flat_at sCells sCells_len l i 1 x hx (by omega))
    have c2 := h.cells (g := g) rfl _ _ (flat_at sCells sCells_len l i 2 x hx (by omega))
    rw [addr_plain] at c0 c1 c2
    exact ⟨by simpa using c0, by simpa [Nat.add_assoc] using c1, by simpa [Nat.add_assoc] using c2, hz x (List.mem_of_getElem? hx)⟩

set_option maxHeartbeats 4000000 in
theorem copyS_c (l : List Tab.St) (v : Value) (w : World) (h : SitesAt w v l) (hl : l.length ≤ 6000) :
    Calls Tryz.prog 52 #[v] w fun e w' => ∃ v', e = .returned v' ∧ w'.ownsRow w.heap.size 80 3 v' l.length (l.flatMap sCells) ∧ Kept w w' := by
  obtain ⟨i0, hi, hz0, hzz1, hzz2⟩ := info_parts info_site
  have HOW := Lib.hid (own_emptyS w 80 3 w.heap.size rfl)
  have HSR := Lib.hid (src_sites (sites_kept h ((Kept.refl w).alloc (.cells #[] 80))))
  have HK := Lib.hid ((Kept.refl w).alloc (.cells #[] 80))
  obtain ⟨a, c, rfl, _⟩ := h
  go_enter Tryz.func52, Tryz.ntmps52
  go_wp2_with (at_builtin; refine wpList_apk rfl (.tmp 3) (.tmp 4) 62 62 rfl w.heap.size 3 80 i0 _ 40 Tryz.underlying62 hi hz0 hzz1 hzz2 rfl rfl HOW.out rfl HSR.out (by unfold maxLen; omega) (by omega) (by simp) ?_; intro v' w4 hown' hgrow hlies; have HN := Lib.hid hown'; have HK4 := Lib.hid (HK.out.grown hgrow fun k e => rown_geS HOW.out e); obtain ⟨va', vn', vc', rfl⟩ := owns_slice hown'; clear hown' hgrow hlies)
  go_ret
  exact ⟨_, rfl, by simpa using HN.out, HK4.out⟩

theorem siteAt_app {l m : List Tab.St} {n : Int} (h0 : ¬ n = 0) (h1 : n ≤ l.length) (h2 : -(l.length : Int) ≤ n) : ∃ x, Tab.siteAt l n = some x ∧ Tab.siteAt (l ++ m) n = some x ∧ x ∈ l := by
  by_cases hp : 0 < n
  · have hk : (n - 1).toNat < l.length := by omega
    exact ⟨l[(n - 1).toNat], Tab.siteAt_up hp (List.getElem?_eq_getElem hk), Tab.siteAt_up hp (by rw [List.getElem?_append_left hk, List.getElem?_eq_getElem hk]), List.getElem_mem hk⟩
  · have hk : (-n - 1).toNat < l.length := by omega
    exact ⟨l[(-n - 1).toNat], Tab.siteAt_down (by omega) (List.getElem?_eq_getElem hk), Tab.siteAt_down (by omega) (by rw [List.getElem?_append_left hk, List.getElem?_eq_getElem hk]), List.getElem_mem hk⟩

set_option maxHeartbeats 32000000 in
theorem more_law_c (t : List Tab.C) (a : Option Addr) (cp : Nat) (l : List Tab.St) (sa : Option Addr) (sc : Nat) (m : List Tab.St) (ma : Option Addr) (mc : Nat) (x1 : Int) (w : World) (hTb : Tb w) (hKw : Kw w) (h : TabAt w (.slice a t.length cp) t) (hs : SitesAt w (.slice sa l.length sc) l) (hm : SitesAt w (.slice ma m.length mc) m) (p1 : -9223372036854775808 ≤ x1) (q1 : x1 ≤ 9223372036854775807) :
    Calls Tryz.prog 14 #[.slice a t.length cp, .slice sa l.length sc, .slice ma m.length mc, .int .i64 x1] w fun e w' => e = .returned (.bool true) ∧ Kept w w' := by
  obtain ⟨i0, hi, hz0, hzz1, hzz2⟩ := info_parts info_site
  have HTB := Lib.hid hTb
  have HKW := Lib.hid hKw
  have HT := Lib.hid h
  have HSI := Lib.hid hs
  have HMI := Lib.hid hm
  clear hTb h hKw hs hm
  go_enter Tryz.func14, Tryz.ntmps14
  go_wp2_with fail
  refine (awake9_c w HTB.out).mono ?_
  rintro e w1 ⟨rfl, k1⟩
  have HK1 := Lib.hid k1
  have HL := Lib.hid (long_c t (.slice a t.length cp) w1 (tab_kept HT.out k1))
  clear k1
  go_wp2_with fail
  refine HL.out.mono ?_
  rintro e w2 ⟨⟨lb, rfl, hsh⟩, k2⟩
  have HK2 := Lib.hid (HK1.out.trans k2)
  clear k2 HL
  cases lb with
  | true =>
    clear hsh
    go_wp2_with fail
    go_ret
    exact ⟨rfl, HK2.out⟩
  | false =>
    have HSM := Lib.hid (short_small (hsh rfl))
    have HLS := Lib.hid (longS_c l _ w2 (sites_kept HSI.out HK2.out))
    have HLM := Lib.hid (longS_c m _ w2 (sites_kept HMI.out HK2.out))
    clear hsh
    go_wp2_with fail
    refine HLS.out.mono ?_
    rintro e w2' ⟨⟨sb, rfl, hsh⟩, hw2⟩
    subst hw2
    cases sb with
    | true =>
      clear hsh HLS HLM
      go_wp2_with fail
      go_ret
      exact ⟨rfl, HK2.out⟩
    | false =>
      obtain ⟨hl12, hshort⟩ := hsh rfl
      have HSHO := Lib.hid hshort
      clear hsh HLS hshort
      go_wp2_with fail
      refine HLM.out.mono ?_
      rintro e w2'' ⟨⟨sb, rfl, hsh⟩, hw2⟩
      subst hw2
      cases sb with
      | true =>
        clear hsh HLM
        go_wp2_with fail
        go_ret
        exact ⟨rfl, HK2.out⟩
      | false =>
        obtain ⟨hm12, hmshort⟩ := hsh rfl
        have HMHO := Lib.hid hmshort
        clear hsh HLM hmshort
        by_cases hl0 : l.length = 0
        · have hl0I : (l.length : Int) = 0 := by omega
          go_wp2_with fail
          go_ret
          exact ⟨rfl, HK2.out⟩
        · have hl0I : ((l.length : Int) == 0) = false := by simpa using hl0
          have HCP := Lib.hid (copyS_c l _ w2'' (sites_kept HSI.out HK2.out) (by omega))
          have HZL := Lib.hid (fun x (hx : x ∈ l) => show x.a.size ≤ 1000 ∧ x.b.size ≤ 1000 by have := HSHO.out x hx; unfold ShortS at this; omega)
          have HZM := Lib.hid (fun x (hx : x ∈ m) => show x.a.size ≤ 1000 ∧ x.b.size ≤ 1000 by have := HMHO.out x hx; unfold ShortS at this; omega)
          have HP := Lib.hid (fun W => show Calls Tryz.prog 36 #[.int .i64 x1, .int .i64 (2 * (l.length : Int))] W fun e w' => (∃ k : Nat, k < 2 * l.length ∧ e = .returned (.int .i64 k)) ∧ w' = W by
            have := pick_c x1 (2 * l.length) W (by omega) (by omega) p1 q1
            rwa [show ((2 * l.length : Nat) : Int) = 2 * (l.length : Int) by omega] at this)
          go_wp2_with fail
          refine HCP.out.mono ?_
          rintro e w3 ⟨v3, rfl, hown, k3⟩
          have HK3 := Lib.hid (HK2.out.trans k3)
          have HOW := Lib.hid hown
          have HSR := Lib.hid (src_sites (sites_kept HMI.out HK3.out))
          have hsz := k3.size
          have HK23 := Lib.hid k3
          obtain ⟨L, hLd⟩ : ∃ L, l ++ m = L := ⟨_, rfl⟩
          have hLl : l.length + m.length = L.length := by rw [← hLd, List.length_append]
          have hfl : l.flatMap sCells ++ m.flatMap sCells = L.flatMap sCells := by rw [← hLd, List.flatMap_append]
          have HZA := Lib.hid (fun x (hx : x ∈ L) => show x.a.size ≤ 1000 ∧ x.b.size ≤ 1000 by
            rw [← hLd] at hx
            rcases List.mem_append.1 hx with hx | hx
            · exact HZL.out x hx
            · exact HZM.out x hx)
          have HLL := Lib.hid (And.intro hLl hfl)
          have HLD := Lib.hid hLd
          clear hLl hfl hLd
          obtain ⟨va3, vn3, vc3, rfl⟩ := owns_slice hown
          clear hown k3 HCP
          go_wp2_with (first | (at_builtin; refine wpList_apk rfl (.tmp 43) (.tmp 44) 62 62 rfl w2''.heap.size 3 80 i0 _ 40 Tryz.underlying62 hi hz0 hzz1 hzz2 rfl rfl HOW.out rfl HSR.out (by unfold maxLen; omega) (by omega) hsz ?_; intro v' w4 hown' hgrow hlies; rw [HLL.out.1, HLL.out.2] at hown'; have HA4 := Lib.hid (owns_sites hown' fun x hx => by have := HZA.out x hx; unfold maxLen; omega); have HK4 := Lib.hid (HK23.out.grown hgrow fun k e => rown_geS HOW.out e); obtain ⟨va', vc', rfl⟩ := owns_slice_n hown'; clear hown' hgrow hlies))
          have HK5 := Lib.hid (HK2.out.trans HK4.out)
          have hLe : L.length = l.length + m.length := HLL.out.1.symm
          have HLE := Lib.hid hLe
          clear hLe
          refine (HP.out _).mono ?_
          rintro e w5 ⟨⟨k, hk, rfl⟩, hw5⟩
          subst hw5
          by_cases hkl : l.length ≤ k
          · have hkI : ¬ (k : Int) - (l.length : Int) < 0 := by omega
            obtain ⟨x, hs1, hs2, hxl⟩ := siteAt_app (l := l) (m := m) (n := (k : Int) - (l.length : Int) + 1) (by omega) (by omega) (by omega)
            rw [HLD.out] at hs2
            have HS1 := Lib.hid (fun W (kk : Kept w W) => sidesS_c l sa sc ((k : Int) - (l.length : Int) + 1) W (sites_kept HSI.out kk) (by omega) (by omega))
            have HS2 := Lib.hid (fun W (kk : Kept w5 W) => sidesS_c L va' vc' ((k : Int) - (l.length : Int) + 1) W (sites_kept HA4.out kk) (by omega) (by omega))
            have HT1 := Lib.hid (fun W (kk : Kept w W) => textS_c l sa sc ((k : Int) - (l.length : Int) + 1) W (HKW.out.kept kk) (sites_kept HSI.out kk) (by omega) (by omega) (by omega) HZL.out)
            have HT2 := Lib.hid (fun W (ka : Kept w W) (kk : Kept w5 W) => textS_c L va' vc' ((k : Int) - (l.length : Int) + 1) W (HKW.out.kept ka) (sites_kept HA4.out kk) (by omega) (by omega) (by have := HLE.out; omega) HZA.out)
            have HM1 := Lib.hid (fun W (kk : Kept w W) => mayS_c t a cp l sa sc ((k : Int) - (l.length : Int) + 1) W (HTB.out.kept kk) (tab_kept HT.out kk) HSM.out (sites_kept HSI.out kk) (by omega) (by omega))
            have HM2 := Lib.hid (fun W (ka : Kept w W) (kk : Kept w5 W) => mayS_c t a cp L va' vc' ((k : Int) - (l.length : Int) + 1) W (HTB.out.kept ka) (tab_kept HT.out ka) HSM.out (sites_kept HA4.out kk) (by omega) (by omega))
            rw [show sidesV l ((k : Int) - (l.length : Int) + 1) = .tuple #[.string (Tab.blamed ((k : Int) - (l.length : Int) + 1) x), .string (Tab.other ((k : Int) - (l.length : Int) + 1) x), .int .i64 0] by unfold sidesV; rw [hs1]] at HS1
            rw [show sidesV L ((k : Int) - (l.length : Int) + 1) = .tuple #[.string (Tab.blamed ((k : Int) - (l.length : Int) + 1) x), .string (Tab.other ((k : Int) - (l.length : Int) + 1) x), .int .i64 0] by unfold sidesV; rw [hs2]] at HS2
            rw [show textV l ((k : Int) - (l.length : Int) + 1) = .tuple #[.string (Tab.textS ((k : Int) - (l.length : Int) + 1) x), .int .i64 0] by unfold textV; rw [hs1]] at HT1
            rw [show textV L ((k : Int) - (l.length : Int) + 1) = .tuple #[.string (Tab.textS ((k : Int) - (l.length : Int) + 1) x), .int .i64 0] by unfold textV; rw [hs2]] at HT2
            rw [show mayV t l ((k : Int) - (l.length : Int) + 1) = .tuple #[.bool (Tab.mayS t ((k : Int) - (l.length : Int) + 1) x), .int .i64 0] by unfold mayV; rw [hs1]] at HM1
            rw [show mayV t L ((k : Int) - (l.length : Int) + 1) = .tuple #[.bool (Tab.mayS t ((k : Int) - (l.length : Int) + 1) x), .int .i64 0] by unfold mayV; rw [hs2]] at HM2
            generalize Tab.blamed ((k : Int) - (l.length : Int) + 1) x = A at HS1 HS2
            generalize Tab.other ((k : Int) - (l.length : Int) + 1) x = B at HS1 HS2
            generalize Tab.textS ((k : Int) - (l.length : Int) + 1) x = X at HT1 HT2
            generalize Tab.mayS t ((k : Int) - (l.length : Int) + 1) x = Y at HM1 HM2
            clear hs1 hs2 hxl
            have HKB := Lib.hid (Kept.refl w5)
            go_wp2_with fail
            refine (HS1.out _ HK5.out).mono ?_
            rintro e w6 ⟨rfl, k6⟩
            have HA6 := Lib.hid (HK5.out.trans k6)
            have HB6 := Lib.hid (HKB.out.trans k6)
            clear k6
            go_wp2_with fail
            refine (HS2.out _ HB6.out).mono ?_
            rintro e w7 ⟨rfl, k7⟩
            have HA7 := Lib.hid (HA6.out.trans k7)
            have HB7 := Lib.hid (HB6.out.trans k7)
            clear k7
            go_wp2_with fail
            refine (HT1.out _ HA7.out).mono ?_
            rintro e w8 ⟨rfl, k8⟩
            have HA8 := Lib.hid (HA7.out.trans k8)
            have HB8 := Lib.hid (HB7.out.trans k8)
            clear k8
            go_wp2_with fail
            refine (HT2.out _ HA8.out HB8.out).mono ?_
            rintro e w9 ⟨rfl, k9⟩
            have HA9 := Lib.hid (HA8.out.trans k9)
            have HB9 := Lib.hid (HB8.out.trans k9)
            clear k9
            go_wp2_with fail
            refine (HM1.out _ HA9.out).mono ?_
            rintro e w10 ⟨rfl, k10⟩
            have HA10 := Lib.hid (HA9.out.trans k10)
            have HB10 := Lib.hid (HB9.out.trans k10)
            clear k10
            go_wp2_with fail
            refine (HM2.out _ HA10.out HB10.out).mono ?_
            rintro e w11 ⟨rfl, k11⟩
            have HA11 := Lib.hid (HA10.out.trans k11)
            have HB11 := Lib.hid (HB10.out.trans k11)
            clear k11
            go_wp2_with fail
            go_ret
            exact ⟨rfl, HA11.out⟩
          · have hkI : (k : Int) - (l.length : Int) < 0 := by omega
            obtain ⟨x, hs1, hs2, hxl⟩ := siteAt_app (l := l) (m := m) (n := (k : Int) - (l.length : Int)) (by omega) (by omega) (by omega)
            rw [HLD.out] at hs2
            have HS1 := Lib.hid (fun W (kk : Kept w W) => sidesS_c l sa sc ((k : Int) - (l.length : Int)) W (sites_kept HSI.out kk) (by omega) (by omega))
            have HS2 := Lib.hid (fun W (kk : Kept w5 W) => sidesS_c L va' vc' ((k : Int) - (l.length : Int)) W (sites_kept HA4.out kk) (by omega) (by omega))
            have HT1 := Lib.hid (fun W (kk : Kept w W) => textS_c l sa sc ((k : Int) - (l.length : Int)) W (HKW.out.kept kk) (sites_kept HSI.out kk) (by omega) (by omega) (by omega) HZL.out)
            have HT2 := Lib.hid (fun W (ka : Kept w W) (kk : Kept w5 W) => textS_c L va' vc' ((k : Int) - (l.length : Int)) W (HKW.out.kept ka) (sites_kept HA4.out kk) (by omega) (by omega) (by have := HLE.out; omega) HZA.out)
            have HM1 := Lib.hid (fun W (kk : Kept w W) => mayS_c t a cp l sa sc ((k : Int) - (l.length : Int)) W (HTB.out.kept kk) (tab_kept HT.out kk) HSM.out (sites_kept HSI.out kk) (by omega) (by omega))
            have HM2 := Lib.hid (fun W (ka : Kept w W) (kk : Kept w5 W) => mayS_c t a cp L va' vc' ((k : Int) - (l.length : Int)) W (HTB.out.kept ka) (tab_kept HT.out ka) HSM.out (sites_kept HA4.out kk) (by omega) (by omega))
            rw [show sidesV l ((k : Int) - (l.length : Int)) = .tuple #[.string (Tab.blamed ((k : Int) - (l.length : Int)) x), .string (Tab.other ((k : Int) - (l.length : Int)) x), .int .i64 0] by unfold sidesV; rw [hs1]] at HS1
            rw [show sidesV L ((k : Int) - (l.length : Int)) = .tuple #[.string (Tab.blamed ((k : Int) - (l.length : Int)) x), .string (Tab.other ((k : Int) - (l.length : Int)) x), .int .i64 0] by unfold sidesV; rw [hs2]] at HS2
            rw [show textV l ((k : Int) - (l.length : Int)) = .tuple #[.string (Tab.textS ((k : Int) - (l.length : Int)) x), .int .i64 0] by unfold textV; rw [hs1]] at HT1
            rw [show textV L ((k : Int) - (l.length : Int)) = .tuple #[.string (Tab.textS ((k : Int) - (l.length : Int)) x), .int .i64 0] by unfold textV; rw [hs2]] at HT2
            rw [show mayV t l ((k : Int) - (l.length : Int)) = .tuple #[.bool (Tab.mayS t ((k : Int) - (l.length : Int)) x), .int .i64 0] by unfold mayV; rw [hs1]] at HM1
            rw [show mayV t L ((k : Int) - (l.length : Int)) = .tuple #[.bool (Tab.mayS t ((k : Int) - (l.length : Int)) x), .int .i64 0] by unfold mayV; rw [hs2]] at HM2
            generalize Tab.blamed ((k : Int) - (l.length : Int)) x = A at HS1 HS2
            generalize Tab.other ((k : Int) - (l.length : Int)) x = B at HS1 HS2
            generalize Tab.textS ((k : Int) - (l.length : Int)) x = X at HT1 HT2
            generalize Tab.mayS t ((k : Int) - (l.length : Int)) x = Y at HM1 HM2
            clear hs1 hs2 hxl
            have HKB := Lib.hid (Kept.refl w5)
            go_wp2_with fail
            refine (HS1.out _ HK5.out).mono ?_
            rintro e w6 ⟨rfl, k6⟩
            have HA6 := Lib.hid (HK5.out.trans k6)
            have HB6 := Lib.hid (HKB.out.trans k6)
            clear k6
            go_wp2_with fail
            refine (HS2.out _ HB6.out).mono ?_
            rintro e w7 ⟨rfl, k7⟩
            have HA7 := Lib.hid (HA6.out.trans k7)
            have HB7 := Lib.hid (HB6.out.trans k7)
            clear k7
            go_wp2_with fail
            refine (HT1.out _ HA7.out).mono ?_
            rintro e w8 ⟨rfl, k8⟩
            have HA8 := Lib.hid (HA7.out.trans k8)
            have HB8 := Lib.hid (HB7.out.trans k8)
            clear k8
            go_wp2_with fail
            refine (HT2.out _ HA8.out HB8.out).mono ?_
            rintro e w9 ⟨rfl, k9⟩
            have HA9 := Lib.hid (HA8.out.trans k9)
            have HB9 := Lib.hid (HB8.out.trans k9)
            clear k9
            go_wp2_with fail
            refine (HM1.out _ HA9.out).mono ?_
            rintro e w10 ⟨rfl, k10⟩
            have HA10 := Lib.hid (HA9.out.trans k10)
            have HB10 := Lib.hid (HB9.out.trans k10)
            clear k10
            go_wp2_with fail
            refine (HM2.out _ HA10.out HB10.out).mono ?_
            rintro e w11 ⟨rfl, k11⟩
            have HA11 := Lib.hid (HA10.out.trans k11)
            have HB11 := Lib.hid (HB10.out.trans k11)
            clear k11
            go_wp2_with fail
            go_ret
            exact ⟨rfl, HA11.out⟩

end Go.Proofs.YthooiofaicdhgaaGreatDoor
