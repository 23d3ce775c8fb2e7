/- The contracts of consist.Has and consist.Goes. -/
import Derived.Test.YtjdkegfckkbpeaaGreatDoorQTkk
import Derived.Test.YtjdkegfckkbpeaaGreatDoorQCre
import Derived.Test.YtjdkegfckkbpeaaGreatDoorQSbt
set_option linter.unusedSimpArgs false
set_option linter.unusedVariables false
set_option maxRecDepth 100000
namespace Go.Proofs.YtjdkegfckkbpeaaGreatDoor.Tab
theorem ok_len {t : List C} (h : ok t = true) : t.length ≤ 40 := by
 have hc := check_zero (of_decide_eq_true h)
 unfold check at hc
 by_cases h0 : 40 < t.length
 ·rw [if_pos h0] at hc; exact absurd hc (by decide)
 ·omega
theorem sub_self (t : List C) (s : ByteArray) : sub t s s = ats t s s := by
 unfold sub
 cases h : ats t s s with
 | false => rfl
 | true =>
  have hok : ok t = true := by
   unfold ats at h
   simp only [Bool.and_eq_true] at h
   exact h.2
  rw [decide_eq_true ((ok_valid hok).up_self s)]; rfl
end Go.Proofs.YtjdkegfckkbpeaaGreatDoor.Tab
namespace Go.Proofs.YtjdkegfckkbpeaaGreatDoor
open Go.ChangeShapes Go.WideShapes Go.ChangeAt Go.RowKit
theorem cisC_c (l : List Tab.C) (v : Value) (s : ByteArray) (w : World) (h : Row 4 ClsAt w v l) :
  Calls Tryz.prog 83 #[v, .string s] w fun e w' => e = .returned (.bool (Tab.isC l s)) ∧ w' = w := by
 have HC := Lib.hid (tfind_c l v s w h)
 unfold FindPost at HC
 unfold Tab.isC
 generalize Tab.num (Tab.ix Tab.C.name l s) = n at HC ⊢
 generalize (Tab.ix Tab.C.name l s).isSome = y at HC ⊢
 obtain ⟨a, c, rfl, _⟩ := h
 go_enter Tryz.func83, Tryz.ntmps83
 go_wp2_with fail
 refine HC.out.mono ?_
 rintro e w1 ⟨rfl, rfl⟩
 go_wp2_with fail
 go_ret
 exact ⟨rfl, rfl⟩
theorem cisT_c (t : List Tab.C) (a : Option Addr) (cp : Nat) (s : ByteArray) (w : World) (hTb : Tb w) (h : TabAt w (.slice a t.length cp) t) (hS : Small t) :
  Calls Tryz.prog 51 #[.slice a t.length cp, .string s] w fun e w' => e = .returned (.bool (Tab.ats t s s)) ∧ Kept w w' := by
 have HC := Lib.hid (sub_c t a cp s s w hTb h hS)
 rw [Tab.sub_self] at HC
 generalize Tab.ats t s s = y at HC ⊢
 clear hTb h hS
 go_enter Tryz.func51, Tryz.ntmps51
 go_wp2_with fail
 refine HC.out.mono ?_
 rintro e w1 ⟨rfl, k1⟩
 go_wp2_with fail
 go_ret
 exact ⟨rfl, k1⟩
set_option maxHeartbeats 2000000 in
theorem has_cc (t : List Tab.C) (a : Option Addr) (cp : Nat) (s u : ByteArray) (w : World) (hTb : Tb w) (h : TabAt w (.slice a t.length cp) t) (hS : Small t) :
  Calls Tryz.prog 52 #[.slice a t.length cp, .string s, .string u] w fun e w' => e = .returned (.bool (Tab.has t s u)) ∧ Kept w w' := by
 have H1 := Lib.hid (cisC_c t (.slice a t.length cp) s w h)
 have H2 := Lib.hid (cisC_c t (.slice a t.length cp) u w h)
 have H3 := Lib.hid (check_c t a cp w hTb h hS)
 obtain ⟨hb, hhb⟩ : ∃ hb, hb = Tab.has t s u := ⟨_, rfl⟩
 rw [← hhb]
 have HHB := Lib.hid hhb
 clear hhb
 cases x1 : Tab.isC t s with
 | false =>
  have HQ := Lib.hid (show hb = false by rw [HHB.out]; unfold Tab.has; rw [x1]; rfl)
  rw [x1] at H1
  clear x1 hTb h hS H2 H3
  go_enter Tryz.func52, Tryz.ntmps52
  go_wp2_with fail
  refine H1.out.mono ?_
  rintro e w1 ⟨rfl, rfl⟩
  go_wp2_with fail
  go_ret
  exact ⟨by rw [HQ.out]; rfl, Kept.refl _⟩
 | true =>
  cases x2 : Tab.isC t u with
  | false =>
   have HQ := Lib.hid (show hb = false by rw [HHB.out]; unfold Tab.has; rw [x1, x2]; rfl)
   rw [x1] at H1
   rw [x2] at H2
   clear x1 x2 hTb h hS H3
   go_enter Tryz.func52, Tryz.ntmps52
   go_wp2_with fail
   refine H1.out.mono ?_
   rintro e w1 ⟨rfl, rfl⟩
   go_wp2_with fail
   refine H2.out.mono ?_
   rintro e w1 ⟨rfl, rfl⟩
   go_wp2_with fail
   go_ret
   exact ⟨by rw [HQ.out]; rfl, Kept.refl _⟩
  | true =>
   obtain ⟨fe, fa, hfe⟩ : ∃ fe fa, Tab.check t = (fe, fa) := ⟨_, _, rfl⟩
   rw [hfe] at H3
   dsimp only at H3
   have hfd : ∀ w : World, (Instr.field 30 (.agg #[.int .i64 fe, .int .i64 fa]) 0).run Tryz.prog w = .ok (.int .i64 fe) w := fun _ => by kernel_rfl
   have hokd : Tab.ok t = decide (fe = 0) := by unfold Tab.ok; rw [hfe]
   by_cases hz : fe = 0
   ·subst hz
    have hok : Tab.ok t = true := by rw [hokd]; rfl
    have hv := Tab.ok_valid hok
    have hlen := Tab.ok_len hok
    obtain ⟨i, hi, hsi⟩ := Tab.isC_at x1
    obtain ⟨k, hk, huk⟩ := Tab.isC_at x2
    have HQ := Lib.hid (show hb = Tab.hasB (Tab.shp t s) (Tab.shp t u) by rw [HHB.out]; unfold Tab.has; rw [x1, x2, hok]; rfl)
    have HT := Lib.hid h
    have HN := Lib.hid (fun W (kw : Kept w W) => numbers_c t a cp W (tab_kept h kw) hv hS.len)
    have HSH := Lib.hid (fun nb nm W (kw : Kept w W) (hn : NumAt t nb W) => shape_c a cp nb t nm W (tab_kept h kw) hS hn)
    have HA1 := Lib.hid (fun L (hp : L.Perm (Tab.shp t s)) hs => shape_of hv hlen hi (L := L) (by rw [← hsi]; exact hp) hs)
    have HA2 := Lib.hid (fun L (hp : L.Perm (Tab.shp t u)) hs => shape_of hv hlen hk (L := L) (by rw [← huk]; exact hp) hs)
    rw [x1] at H1
    rw [x2] at H2
    have hzz : ((0 : Int) != 0) = false := rfl
    clear x1 x2 hTb h hS hok hokd hfe hsi huk
    go_enter Tryz.func52, Tryz.ntmps52
    go_wp2_with fail
    refine H1.out.mono ?_
    rintro e w1 ⟨rfl, rfl⟩
    go_wp2_with fail
    refine H2.out.mono ?_
    rintro e w1 ⟨rfl, rfl⟩
    go_wp2_with fail
    refine H3.out.mono ?_
    rintro e w2 ⟨rfl, k2⟩
    have HK2 := Lib.hid k2
    clear k2
    go_wp2_with fail
    refine (HN.out w2 HK2.out).mono ?_
    rintro e w3 ⟨rfl, hn3, k3⟩
    have HK3 := Lib.hid (HK2.out.trans k3)
    have HN3 := Lib.hid hn3
    clear hn3 k3
    go_wp2_with fail
    refine (HSH.out _ s w3 HK3.out HN3.out).mono ?_
    rintro e w4 ⟨⟨L1, a1, c1, rfl, p1, s1, st1⟩, k4⟩
    have HK4 := Lib.hid (HK3.out.trans k4)
    have HN4 := Lib.hid (HN3.out.kept k4)
    have HP1 := Lib.hid p1
    have HS1 := Lib.hid s1
    have HT1 := Lib.hid st1
    clear p1 s1 st1 k4
    go_wp2_with fail
    refine (HSH.out _ u w4 HK4.out HN4.out).mono ?_
    rintro e w5 ⟨⟨L2, a2, c2, rfl, p2, s2, st2⟩, k5⟩
    have HK5 := Lib.hid (HK4.out.trans k5)
    have HC := Lib.hid (chas_c L1 L2 a1 a2 c1 c2 w5 (HT1.out w5 (Only.of_kept k5)) (st2 w5 (Only.refl _ _)) (HA1.out L1 HP1.out HS1.out).asc (HA2.out L2 p2 s2).asc)
    rw [Tab.hasB_perm HP1.out p2, ← HQ.out] at HC
    clear p2 s2 st2 k5
    go_wp2_with fail
    refine HC.out.mono ?_
    rintro e w6 ⟨rfl, k6⟩
    have HK6 := Lib.hid (HK5.out.trans k6)
    clear k6
    go_wp2_with fail
    go_ret
    exact ⟨rfl, HK6.out⟩
   ·have HQ := Lib.hid (show hb = false by
     rw [HHB.out]; unfold Tab.has; rw [x1, x2, hokd, decide_eq_false hz]; rfl)
    have hb2 : (fe != 0) = true := by simp [hz]
    have hb3 : (fe == 0) = false := by simp [hz]
    rw [x1] at H1
    rw [x2] at H2
    clear x1 x2 hTb h hS hokd hfe hz
    go_enter Tryz.func52, Tryz.ntmps52
    go_wp2_with fail
    refine H1.out.mono ?_
    rintro e w1 ⟨rfl, rfl⟩
    go_wp2_with fail
    refine H2.out.mono ?_
    rintro e w1 ⟨rfl, rfl⟩
    go_wp2_with fail
    refine H3.out.mono ?_
    rintro e w2 ⟨rfl, k2⟩
    have HK2 := Lib.hid k2
    clear k2
    go_wp2_with fail
    go_ret
    exact ⟨by rw [HQ.out]; rfl, HK2.out⟩
set_option maxHeartbeats 2000000 in
theorem goes_cc (t : List Tab.C) (a : Option Addr) (cp : Nat) (s u : ByteArray) (w : World) (hTb : Tb w) (h : TabAt w (.slice a t.length cp) t) (hS : Small t) (hs : s.size ≤ maxLen) (hu : u.size ≤ maxLen) :
  Calls Tryz.prog 35 #[.slice a t.length cp, .string s, .string u] w fun e w' => e = .returned (.bool (Tab.goes t s u)) ∧ Kept w w' := by
 have HT1 := Lib.hid (cisT_c t a cp u w hTb h hS)
 have HT2 := Lib.hid (cisT_c t a cp s w hTb h hS)
 have HSB := Lib.hid (sub_c t a cp s u w hTb h hS)
 have HHS := Lib.hid (fun W (kw : Kept w W) => has_cc t a cp s u W (hTb.kept kw) (tab_kept h kw) hS)
 obtain ⟨hb, hhb⟩ : ∃ hb, hb = Tab.goes t s u := ⟨_, rfl⟩
 rw [← hhb]
 have HHB := Lib.hid hhb
 clear hhb
 by_cases h1 : s = ⟨#[63]⟩
 ·have b1 : (s.toList == [63]) = true := lit_yes h1
  have HQ := Lib.hid (show hb = Tab.ats t u u by rw [HHB.out]; unfold Tab.goes; rw [if_pos h1])
  generalize Tab.ats t u u = y at HT1 HQ
  clear hTb h hS h1 HSB HT2 HHS
  go_enter Tryz.func35, Tryz.ntmps35
  go_wp2_with fail
  refine HT1.out.mono ?_
  rintro e w1 ⟨rfl, k1⟩
  have HK := Lib.hid k1
  clear k1
  go_wp2_with fail
  go_ret
  exact ⟨by rw [HQ.out]; rfl, HK.out⟩
 ·have b1 : (s.toList == [63]) = false := lit_no h1
  by_cases h2 : u = ⟨#[63]⟩
  ·have b2 : (u.toList == [63]) = true := lit_yes h2
   have HQ := Lib.hid (show hb = Tab.ats t s s by rw [HHB.out]; unfold Tab.goes; rw [if_neg h1, if_pos h2])
   generalize Tab.ats t s s = y at HT2 HQ
   clear hTb h hS h1 h2 HSB HT1 HHS
   go_enter Tryz.func35, Tryz.ntmps35
   go_wp2_with fail
   refine HT2.out.mono ?_
   rintro e w1 ⟨rfl, k1⟩
   have HK := Lib.hid k1
   clear k1
   go_wp2_with fail
   go_ret
   exact ⟨by rw [HQ.out]; rfl, HK.out⟩
  ·have b2 : (u.toList == [63]) = false := lit_no h2
   have HQ0 := Lib.hid (show hb = (Tab.sub t s u || (Tab.has t s u && Tab.goesN (Tab.inL (Tab.gfp (Tab.shps t))) (Tab.numOf t s) (Tab.numOf t u))) by rw [HHB.out]; unfold Tab.goes; rw [if_neg h1, if_neg h2])
   cases x1 : Tab.sub t s u with
   | true =>
    rw [x1] at HSB
    have HQ := Lib.hid (show hb = true by rw [HQ0.out, x1]; rfl)
    clear hTb h hS h1 h2 x1 HT1 HT2 HHS
    go_enter Tryz.func35, Tryz.ntmps35
    go_wp2_with fail
    refine HSB.out.mono ?_
    rintro e w1 ⟨rfl, k1⟩
    have HK := Lib.hid k1
    clear k1
    go_wp2_with fail
    go_ret
    exact ⟨by rw [HQ.out]; rfl, HK.out⟩
   | false =>
    rw [x1] at HSB
    cases x2 : Tab.has t s u with
    | false =>
     rw [x2] at HHS
     have HQ := Lib.hid (show hb = false by rw [HQ0.out, x1, x2]; rfl)
     clear hTb h hS h1 h2 x1 x2 HT1 HT2
     go_enter Tryz.func35, Tryz.ntmps35
     go_wp2_with fail
     refine HSB.out.mono ?_
     rintro e w1 ⟨rfl, k1⟩
     have HK := Lib.hid k1
     clear k1
     go_wp2_with fail
     refine (HHS.out w1 HK.out).mono ?_
     rintro e w2 ⟨rfl, k2⟩
     have HK2 := Lib.hid (HK.out.trans k2)
     clear k2
     go_wp2_with fail
     go_ret
     exact ⟨by rw [HQ.out]; rfl, HK2.out⟩
    | true =>
     rw [x2] at HHS
     have hok : Tab.ok t = true := by
      unfold Tab.has at x2
      simp only [Bool.and_eq_true] at x2
      exact x2.1.2
     have hv := Tab.ok_valid hok
     have hlen := Tab.ok_len hok
     have HQ := Lib.hid (show hb = Tab.goesN (Tab.inL (Tab.gfp (Tab.shps t))) (Tab.numOf t s) (Tab.numOf t u) by rw [HQ0.out, x1, x2]; rfl)
     have HN := Lib.hid (fun W (kw : Kept w W) => numbers_c t a cp W (tab_kept h kw) hv hS.len)
     have HRE := Lib.hid (fun nb W (kw : Kept w W) (hn : NumAt t nb W) => related_c a cp nb t W (tab_kept h kw) hS hn hv hlen)
     have hn1 := Tab.numOf_lt hlen s
     have hn2 := Tab.numOf_lt hlen u
     clear hTb h hS h1 h2 x1 x2 HT1 HT2 hok hv hlen
     go_enter Tryz.func35, Tryz.ntmps35
     go_wp2_with fail
     refine HSB.out.mono ?_
     rintro e w1 ⟨rfl, k1⟩
     have HK := Lib.hid k1
     clear k1
     go_wp2_with fail
     refine (HHS.out w1 HK.out).mono ?_
     rintro e w2 ⟨rfl, k2⟩
     have HK2 := Lib.hid (HK.out.trans k2)
     clear k2
     go_wp2_with fail
     refine (HN.out w2 HK2.out).mono ?_
     rintro e w3 ⟨rfl, hn3, k3⟩
     have HK3 := Lib.hid (HK2.out.trans k3)
     have HN3 := Lib.hid hn3
     clear hn3 k3
     go_wp2_with fail
     refine wp_region_any (by kernel_rfl) ?_
     change wpAny _ _ _ _ _ _ _ (World.drew _)
     refine any_states (fun G hG => ?_)
     have hs0' : ∀ sv w7, RelAt w7 w3.heap.size sv (Tab.inL (Tab.gfp (Tab.shps t))) → Kept w3 w7 → G 2 #[true, true, true, true, true, true, true, true, true, false, false] { tmps := #[.slice a t.length cp, .string s, .string u, undef, undef, undef, .bool false, .map (some w2.heap.size), .bool false, .string s, .bool false, undef, undef, undef, .bool false, .string u, .bool false, undef, undef, undef, .bool false, .slice a t.length cp, .string s, .string u, .bool false, .bool false, .slice a t.length cp, .string s, .string u, .bool true, .bool false, .slice a t.length cp, .map (some w2.heap.size), .slice a t.length cp, .map (some w2.heap.size), .pointer (some ⟨w3.heap.size, 0, none⟩), .map (some w2.heap.size), .string s, .int .i64 (Tab.numOf t s), .map (some w2.heap.size), .string u, .int .i64 (Tab.numOf t u), undef], defers := [] } w7 := by
      intro sv w7 r7 k7
      have hla := (HN3.out.kept k7).look s hs
      have hlb := (HN3.out.kept k7).look u hu
      have R7 := Lib.hid r7
      have K7 := Lib.hid k7
      clear r7 k7
      rw [hG]
      have HG := Lib.hid (cgoes_c (Tab.inL (Tab.gfp (Tab.shps t))) sv w3.heap.size (Tab.numOf t s) (Tab.numOf t u) w7 R7.out hn1 hn2)
      rw [← HQ.out] at HG
      have HK7 := Lib.hid (HK3.out.trans K7.out)
      clear hla hlb
      refine rdA [9] ?_
      refine aR (fun K hK => ?_) ?_
      ·go_simp
       go_wp2_with fail
       refine HG.out.mono ?_
       rintro e w8 ⟨rfl, rfl⟩
       dsimp only
       refine hK _ _ ?_; clear hK K
       refine tkV 10 (.bool hb) ?_
       refine wpAny_done (by kernel_rfl) ?_ _
       go_simp
       go_wp2_with fail
       go_ret
       exact ⟨rfl, HK7.out⟩
      ·exact AllReady.nil
     have hs0 := Lib.hid hs0'
     clear hs0'
     have hs1' : ∀ sv w7, RelAt w7 w3.heap.size sv (Tab.inL (Tab.gfp (Tab.shps t))) → Kept w3 w7 → G 3 #[true, true, true, true, true, true, true, true, false, false, false] { tmps := #[.slice a t.length cp, .string s, .string u, undef, undef, undef, .bool false, .map (some w2.heap.size), .bool false, .string s, .bool false, undef, undef, undef, .bool false, .string u, .bool false, undef, undef, undef, .bool false, .slice a t.length cp, .string s, .string u, .bool false, .bool false, .slice a t.length cp, .string s, .string u, .bool true, .bool false, .slice a t.length cp, .map (some w2.heap.size), .slice a t.length cp, .map (some w2.heap.size), .pointer (some ⟨w3.heap.size, 0, none⟩), .map (some w2.heap.size), .string s, .int .i64 (Tab.numOf t s), .map (some w2.heap.size), .string u, undef, undef], defers := [] } w7 := by
      intro sv w7 r7 k7
      have hla := (HN3.out.kept k7).look s hs
      have hlb := (HN3.out.kept k7).look u hu
      have R7 := Lib.hid r7
      have K7 := Lib.hid k7
      clear r7 k7
      rw [hG]
      refine rdA [8] ?_
      refine aR (fun K hK => ?_) ?_
      ·go_simp
       refine hK _ _ ?_; clear hK K
       exact aE hG (hs0.out _ _ R7.out K7.out)
      exact AllReady.nil
     have hs1 := Lib.hid hs1'
     clear hs1'
     have hs2' : ∀ sv w7, RelAt w7 w3.heap.size sv (Tab.inL (Tab.gfp (Tab.shps t))) → Kept w3 w7 → G 3 #[true, true, true, true, true, false, true, true, true, false, false] { tmps := #[.slice a t.length cp, .string s, .string u, undef, undef, undef, .bool false, .map (some w2.heap.size), .bool false, .string s, .bool false, undef, undef, undef, .bool false, .string u, .bool false, undef, undef, undef, .bool false, .slice a t.length cp, .string s, .string u, .bool false, .bool false, .slice a t.length cp, .string s, .string u, .bool true, .bool false, .slice a t.length cp, .map (some w2.heap.size), .slice a t.length cp, .map (some w2.heap.size), .pointer (some ⟨w3.heap.size, 0, none⟩), .map (some w2.heap.size), .string s, undef, .map (some w2.heap.size), .string u, .int .i64 (Tab.numOf t u), undef], defers := [] } w7 := by
      intro sv w7 r7 k7
      have hla := (HN3.out.kept k7).look s hs
      have hlb := (HN3.out.kept k7).look u hu
      have R7 := Lib.hid r7
      have K7 := Lib.hid k7
      clear r7 k7
      rw [hG]
      refine rdA [5] ?_
      refine aR (fun K hK => ?_) ?_
      ·go_simp
       refine hK _ _ ?_; clear hK K
       exact aE hG (hs0.out _ _ R7.out K7.out)
      exact AllReady.nil
     have hs2 := Lib.hid hs2'
     clear hs2'
     have hs3' : ∀ sv w7, RelAt w7 w3.heap.size sv (Tab.inL (Tab.gfp (Tab.shps t))) → Kept w3 w7 → G 4 #[true, true, true, true, true, false, true, true, false, false, false] { tmps := #[.slice a t.length cp, .string s, .string u, undef, undef, undef, .bool false, .map (some w2.heap.size), .bool false, .string s, .bool false, undef, undef, undef, .bool false, .string u, .bool false, undef, undef, undef, .bool false, .slice a t.length cp, .string s, .string u, .bool false, .bool false, .slice a t.length cp, .string s, .string u, .bool true, .bool false, .slice a t.length cp, .map (some w2.heap.size), .slice a t.length cp, .map (some w2.heap.size), .pointer (some ⟨w3.heap.size, 0, none⟩), .map (some w2.heap.size), .string s, undef, .map (some w2.heap.size), .string u, undef, undef], defers := [] } w7 := by
      intro sv w7 r7 k7
      have hla := (HN3.out.kept k7).look s hs
      have hlb := (HN3.out.kept k7).look u hu
      have R7 := Lib.hid r7
      have K7 := Lib.hid k7
      clear r7 k7
      rw [hG]
      refine rdA [5, 8] ?_
      refine aR (fun K hK => ?_) ?_
      ·go_simp
       refine hK _ _ ?_; clear hK K
       exact aE hG (hs1.out _ _ R7.out K7.out)
      refine aR (fun K hK => ?_) ?_
      ·go_simp
       refine hK _ _ ?_; clear hK K
       exact aE hG (hs2.out _ _ R7.out K7.out)
      exact AllReady.nil
     have hs3 := Lib.hid hs3'
     clear hs3'
     have hs4' : G 3 #[true, true, false, true, true, true, true, true, true, false, false] { tmps := #[.slice a t.length cp, .string s, .string u, undef, undef, undef, .bool false, .map (some w2.heap.size), .bool false, .string s, .bool false, undef, undef, undef, .bool false, .string u, .bool false, undef, undef, undef, .bool false, .slice a t.length cp, .string s, .string u, .bool false, .bool false, .slice a t.length cp, .string s, .string u, .bool true, .bool false, .slice a t.length cp, .map (some w2.heap.size), .slice a t.length cp, .map (some w2.heap.size), undef, .map (some w2.heap.size), .string s, .int .i64 (Tab.numOf t s), .map (some w2.heap.size), .string u, .int .i64 (Tab.numOf t u), undef], defers := [] } w3.drew := by
      have hla := (HN3.out.kept (Kept.refl w3).drew).look s hs
      have hlb := (HN3.out.kept (Kept.refl w3).drew).look u hu
      rw [hG]
      refine rdA [2] ?_
      refine aR (fun K hK => ?_) ?_
      ·go_simp
       go_wp2_with fail
       refine (HRE.out _ w3.drew HK3.out.drew (HN3.out.kept (Kept.refl w3).drew)).mono ?_
       rintro e w7 ⟨sv, rfl, r7, k7'⟩
       have k7 : Kept w3 w7 := ((Kept.refl w3).drew).trans k7'
       clear k7'
       dsimp only
       refine hK _ _ ?_; clear hK K
       exact aE hG (hs0.out _ _ r7 k7)
      exact AllReady.nil
     have hs4 := Lib.hid hs4'
     clear hs4'
     have hs5' : G 4 #[true, true, false, true, true, true, true, true, false, false, false] { tmps := #[.slice a t.length cp, .string s, .string u, undef, undef, undef, .bool false, .map (some w2.heap.size), .bool false, .string s, .bool false, undef, undef, undef, .bool false, .string u, .bool false, undef, undef, undef, .bool false, .slice a t.length cp, .string s, .string u, .bool false, .bool false, .slice a t.length cp, .string s, .string u, .bool true, .bool false, .slice a t.length cp, .map (some w2.heap.size), .slice a t.length cp, .map (some w2.heap.size), undef, .map (some w2.heap.size), .string s, .int .i64 (Tab.numOf t s), .map (some w2.heap.size), .string u, undef, undef], defers := [] } w3.drew := by
      have hla := (HN3.out.kept (Kept.refl w3).drew).look s hs
      have hlb := (HN3.out.kept (Kept.refl w3).drew).look u hu
      rw [hG]
      refine rdA [2, 8] ?_
      refine aR (fun K hK => ?_) ?_
      ·go_simp
       go_wp2_with fail
       refine (HRE.out _ w3.drew HK3.out.drew (HN3.out.kept (Kept.refl w3).drew)).mono ?_
       rintro e w7 ⟨sv, rfl, r7, k7'⟩
       have k7 : Kept w3 w7 := ((Kept.refl w3).drew).trans k7'
       clear k7'
       dsimp only
       refine hK _ _ ?_; clear hK K
       exact aE hG (hs1.out _ _ r7 k7)
      refine aR (fun K hK => ?_) ?_
      ·go_simp
       refine hK _ _ ?_; clear hK K
       exact aE hG hs4.out
      exact AllReady.nil
     have hs5 := Lib.hid hs5'
     clear hs5'
     have hs6' : G 4 #[true, true, false, true, true, false, true, true, true, false, false] { tmps := #[.slice a t.length cp, .string s, .string u, undef, undef, undef, .bool false, .map (some w2.heap.size), .bool false, .string s, .bool false, undef, undef, undef, .bool false, .string u, .bool false, undef, undef, undef, .bool false, .slice a t.length cp, .string s, .string u, .bool false, .bool false, .slice a t.length cp, .string s, .string u, .bool true, .bool false, .slice a t.length cp, .map (some w2.heap.size), .slice a t.length cp, .map (some w2.heap.size), undef, .map (some w2.heap.size), .string s, undef, .map (some w2.heap.size), .string u, .int .i64 (Tab.numOf t u), undef], defers := [] } w3.drew := by
      have hla := (HN3.out.kept (Kept.refl w3).drew).look s hs
      have hlb := (HN3.out.kept (Kept.refl w3).drew).look u hu
      rw [hG]
      refine rdA [2, 5] ?_
      refine aR (fun K hK => ?_) ?_
      ·go_simp
       go_wp2_with fail
       refine (HRE.out _ w3.drew HK3.out.drew (HN3.out.kept (Kept.refl w3).drew)).mono ?_
       rintro e w7 ⟨sv, rfl, r7, k7'⟩
       have k7 : Kept w3 w7 := ((Kept.refl w3).drew).trans k7'
       clear k7'
       dsimp only
       refine hK _ _ ?_; clear hK K
       exact aE hG (hs2.out _ _ r7 k7)
      refine aR (fun K hK => ?_) ?_
      ·go_simp
       refine hK _ _ ?_; clear hK K
       exact aE hG hs4.out
      exact AllReady.nil
     have hs6 := Lib.hid hs6'
     clear hs6'
     have hs7' : G 5 #[true, true, false, true, true, false, true, true, false, false, false] { tmps := #[.slice a t.length cp, .string s, .string u, undef, undef, undef, .bool false, .map (some w2.heap.size), .bool false, .string s, .bool false, undef, undef, undef, .bool false, .string u, .bool false, undef, undef, undef, .bool false, .slice a t.length cp, .string s, .string u, .bool false, .bool false, .slice a t.length cp, .string s, .string u, .bool true, .bool false, .slice a t.length cp, .map (some w2.heap.size), .slice a t.length cp, .map (some w2.heap.size), undef, .map (some w2.heap.size), .string s, undef, .map (some w2.heap.size), .string u, undef, undef], defers := [] } w3.drew := by
      have hla := (HN3.out.kept (Kept.refl w3).drew).look s hs
      have hlb := (HN3.out.kept (Kept.refl w3).drew).look u hu
      rw [hG]
      refine rdA [2, 5, 8] ?_
      refine aR (fun K hK => ?_) ?_
      ·go_simp
       go_wp2_with fail
       refine (HRE.out _ w3.drew HK3.out.drew (HN3.out.kept (Kept.refl w3).drew)).mono ?_
       rintro e w7 ⟨sv, rfl, r7, k7'⟩
       have k7 : Kept w3 w7 := ((Kept.refl w3).drew).trans k7'
       clear k7'
       dsimp only
       refine hK _ _ ?_; clear hK K
       exact aE hG (hs3.out _ _ r7 k7)
      refine aR (fun K hK => ?_) ?_
      ·go_simp
       refine hK _ _ ?_; clear hK K
       exact aE hG hs5.out
      refine aR (fun K hK => ?_) ?_
      ·go_simp
       refine hK _ _ ?_; clear hK K
       exact aE hG hs6.out
      exact AllReady.nil
     have hs7 := Lib.hid hs7'
     clear hs7'
     refine tkV 0 (.slice a t.length cp) ?_
     refine tkV 1 (.map (some w2.heap.size)) ?_
     refine tkV 3 (.map (some w2.heap.size)) ?_
     refine tkV 4 (.string s) ?_
     refine tkV 6 (.map (some w2.heap.size)) ?_
     refine tkV 7 (.string u) ?_
     exact aE hG hs7.out
end Go.Proofs.YtjdkegfckkbpeaaGreatDoor
