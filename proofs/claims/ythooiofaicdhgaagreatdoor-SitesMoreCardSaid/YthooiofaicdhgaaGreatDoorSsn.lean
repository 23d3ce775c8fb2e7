/- The contracts of sites: Sides, May, whether a cast may be. -/
import Derived.Test.YthooiofaicdhgaaGreatDoorSsm
import Derived.Test.YthooiofaicdhgaaGreatDoorPso
import Derived.Test.YthooiofaicdhgaaGreatDoorCgg
import Derived.StillTactics
set_option linter.unusedSimpArgs false
set_option linter.unusedVariables false
set_option maxRecDepth 100000
namespace Go.Proofs.YthooiofaicdhgaaGreatDoor
open Go.ChangeShapes Go.WideShapes Go.ChangeAt Go.RowKit

theorem findSt_c (l : List Tab.St) (a : Option Addr) (cp : Nat) (n : Int) (w : World) (h : SitesAt w (.slice a l.length cp) l) (hn1 : -9223372036854775808 ≤ n) (hn2 : n ≤ 9223372036854775807) :
    Calls Tryz.prog 122 #[.slice a l.length cp, .int .i64 n] w (FoundS l n w) := by
  have hl : l.length ≤ 9223372036854775807 := by
    obtain ⟨_, c, e, h1, h2, _⟩ := h
    unfold maxLen at h2
    omega
  by_cases h0 : n = 0
  · exact findS0_c l a cp n w hl hn1 hn2 (.inl h0)
  · by_cases h1 : (l.length : Int) < n
    · exact findS0_c l a cp n w hl hn1 hn2 (.inr (.inl h1))
    · by_cases h2 : n < -(l.length : Int)
      · exact findS0_c l a cp n w hl hn1 hn2 (.inr (.inr h2))
      · exact findS1_c l a cp n w h hl h0 h1 h2

/-- The two boxes that Sides, May and Text keep. -/
def bxA (w : World) (q : Int) (a b c d : ByteArray) : World := (w.alloc (.cells #[.int .i64 q, .string a, .string b] 80)).alloc (.cells #[.string c, .string d] 138)
theorem bx_kept {w w1 : World} (k : Kept w w1) (q : Int) (a b c d : ByteArray) : Kept w (bxA w1 q a b c d) := (k.alloc _).alloc _
theorem bx_ends (w : World) (q : Int) (a b c d : ByteArray) : Blk (bxA w q a b c d) w.heap.size 80 #[.int .i64 q, .string a, .string b] ∧ Blk (bxA w q a b c d) (w.heap.size + 1) 138 #[.string c, .string d] := by
  refine ⟨(Blk.new w _ _).alloc _, ?_⟩
  have h := Blk.new (w.alloc (.cells #[.int .i64 q, .string a, .string b] 80)) 138 #[.string c, .string d]
  rw [World.size_alloc] at h
  exact h

def sidesV (l : List Tab.St) (n : Int) : Value := match Tab.siteAt l n with
  | none => .tuple #[.string ⟨#[]⟩, .string ⟨#[]⟩, .int .i64 3]
  | some x => .tuple #[.string (Tab.blamed n x), .string (Tab.other n x), .int .i64 0]

set_option maxHeartbeats 4000000 in
theorem sidesS_c (l : List Tab.St) (a : Option Addr) (cp : Nat) (n : Int) (w : World) (h : SitesAt w (.slice a l.length cp) l) (hn1 : -9223372036854775808 ≤ n) (hn2 : n ≤ 9223372036854775807) :
    Calls Tryz.prog 56 #[.slice a l.length cp, .int .i64 n] w fun e w' => e = .returned (sidesV l n) ∧ Kept w w' := by
  have HF := Lib.hid (findSt_c l a cp n w h hn1 hn2)
  unfold FoundS at HF
  clear h
  cases hs : Tab.siteAt l n with
  | none =>
    rw [hs] at HF
    simp only at HF
    rw [show sidesV l n = .tuple #[.string ⟨#[]⟩, .string ⟨#[]⟩, .int .i64 3] by unfold sidesV; rw [hs]]
    clear hs
    go_enter Tryz.func56, Tryz.ntmps56
    go_wp2_with fail
    refine HF.out.mono ?_
    rintro e w1 ⟨rfl, k1⟩
    have HK := Lib.hid (bx_kept k1 0 ⟨#[]⟩ ⟨#[]⟩ ⟨#[]⟩ ⟨#[]⟩)
    obtain ⟨W3, hW3⟩ : ∃ W3, bxA w1 0 ⟨#[]⟩ ⟨#[]⟩ ⟨#[]⟩ ⟨#[]⟩ = W3 := ⟨_, rfl⟩
    have B8 := (bx_ends w1 0 ⟨#[]⟩ ⟨#[]⟩ ⟨#[]⟩ ⟨#[]⟩).2
    rw [hW3] at HK B8
    have p0 := B8.cell 0
    have p1 := B8.cell 1
    simp only [List.getElem?_toArray, List.getElem?_cons_zero, List.getElem?_cons_succ] at p0 p1
    have HW3 := Lib.hid hW3
    clear hW3 B8 k1
    go_wp2_with fail
    rw [show (w1.alloc (.cells #[.int .i64 0, .string ⟨#[]⟩, .string ⟨#[]⟩] 80)).alloc (.cells #[.string ⟨#[]⟩, .string ⟨#[]⟩] 138) = W3 from HW3.out]
    go_still (by kernel_rfl)
    go_wp2_with fail
    exact bodyPost_ret (v := .tuple #[.string ⟨#[]⟩, .string ⟨#[]⟩, .int .i64 3]) (by simp [results, Tryz.results56, go_sem]) rfl ⟨rfl, HK.out.drew⟩
  | some x =>
    rw [hs] at HF
    simp only at HF
    rw [show sidesV l n = .tuple #[.string (Tab.blamed n x), .string (Tab.other n x), .int .i64 0] by unfold sidesV; rw [hs]]
    clear hs
    generalize Tab.blamed n x = c at HF ⊢
    generalize Tab.other n x = d at HF ⊢
    go_enter Tryz.func56, Tryz.ntmps56
    go_wp2_with fail
    refine HF.out.mono ?_
    rintro e w1 ⟨rfl, k1⟩
    have HK := Lib.hid (bx_kept k1 x.what x.a x.b c d)
    obtain ⟨W3, hW3⟩ : ∃ W3, bxA w1 x.what x.a x.b c d = W3 := ⟨_, rfl⟩
    have B8 := (bx_ends w1 x.what x.a x.b c d).2
    rw [hW3] at HK B8
    have p0 := B8.cell 0
    have p1 := B8.cell 1
    simp only [List.getElem?_toArray, List.getElem?_cons_zero, List.getElem?_cons_succ] at p0 p1
    have HW3 := Lib.hid hW3
    clear hW3 B8 k1
    go_wp2_with fail
    rw [show (w1.alloc (.cells #[.int .i64 x.what, .string x.a, .string x.b] 80)).alloc (.cells #[.string c, .string d] 138) = W3 from HW3.out]
    go_still (by kernel_rfl)
    go_wp2_with fail
    exact bodyPost_ret (v := .tuple #[.string c, .string d, .int .i64 0]) (by simp [results, Tryz.results56, go_sem]) rfl ⟨rfl, HK.out.drew⟩

noncomputable def mayV (t : List Tab.C) (l : List Tab.St) (n : Int) : Value := match Tab.siteAt l n with
  | none => .tuple #[.bool false, .int .i64 3]
  | some x => .tuple #[.bool (Tab.mayS t n x), .int .i64 0]

set_option maxHeartbeats 4000000 in
theorem mayS_c (t : List Tab.C) (ta : Option Addr) (tc : Nat) (l : List Tab.St) (a : Option Addr) (cp : Nat) (n : Int) (w : World) (hTb : Tb w) (ht : TabAt w (.slice ta t.length tc) t) (hS : Small t) (h : SitesAt w (.slice a l.length cp) l) (hn1 : -9223372036854775808 ≤ n) (hn2 : n ≤ 9223372036854775807) :
    Calls Tryz.prog 58 #[.slice ta t.length tc, .slice a l.length cp, .int .i64 n] w fun e w' => e = .returned (mayV t l n) ∧ Kept w w' := by
  have HF := Lib.hid (findSt_c l a cp n w h hn1 hn2)
  have HP := Lib.hid (fun (s u : ByteArray) (W : World) (k : Kept w W) => precise_cc t ta tc s u W (hTb.kept k) (tab_kept ht k) hS)
  have HZ := Lib.hid (fun x (hx : Tab.siteAt l n = some x) => show x.a.size ≤ maxLen ∧ x.b.size ≤ maxLen by
    have : x ∈ l := by
      unfold Tab.siteAt at hx
      split at hx
      · exact List.mem_of_getElem? hx
      · split at hx
        · exact List.mem_of_getElem? hx
        · cases hx
    obtain ⟨i, hi⟩ := List.getElem?_of_mem this
    obtain ⟨_, _, e, _, _, hat⟩ := h
    obtain ⟨_, _, _, hc⟩ := hat i x hi
    exact hc.2.2.2)
  unfold FoundS at HF
  clear h hTb ht hS
  cases hs : Tab.siteAt l n with
  | none =>
    rw [hs] at HF
    simp only at HF
    rw [show mayV t l n = .tuple #[.bool false, .int .i64 3] by unfold mayV; rw [hs]]
    clear hs HZ
    go_enter Tryz.func58, Tryz.ntmps58
    go_wp2_with fail
    refine HF.out.mono ?_
    rintro e w1 ⟨rfl, k1⟩
    have HK := Lib.hid (bx_kept k1 0 ⟨#[]⟩ ⟨#[]⟩ ⟨#[]⟩ ⟨#[]⟩)
    clear k1
    go_wp2_with fail
    go_ret2
    exact ⟨rfl, HK.out⟩
  | some x =>
    rw [hs] at HF
    simp only at HF
    rw [show mayV t l n = .tuple #[.bool (Tab.mayS t n x), .int .i64 0] by unfold mayV; rw [hs]]
    obtain ⟨z1, z2⟩ := HZ.out x hs
    have HKD := Lib.hid (fun W => kindOf_c x.what x.a x.b W)
    obtain ⟨q, hq⟩ : ∃ q, Tab.kindS ⟨x.what, x.a, x.b⟩ = q := ⟨_, rfl⟩
    have hq' : Tab.kindS x = q := hq
    rw [hq] at HKD
    have HM := Lib.hid (show Tab.mayS t n x = if q = 1 then !Tab.precise t (Tab.blamed n x) (Tab.other n x) else decide (0 < n) by unfold Tab.mayS; rw [hq'])
    have zc : (Tab.blamed n x).size ≤ maxLen := by unfold Tab.blamed; split <;> assumption
    have zd : (Tab.other n x).size ≤ maxLen := by unfold Tab.other; split <;> assumption
    have HPC := Lib.hid (fun W (k : Kept w W) => HP.out (Tab.blamed n x) (Tab.other n x) W k zc zd)
    clear hs HZ z1 z2 zc zd hq hq' HP
    generalize Tab.mayS t n x = ans at HM ⊢
    generalize Tab.precise t (Tab.blamed n x) (Tab.other n x) = pr at HM HPC
    generalize Tab.blamed n x = c at HF HPC
    generalize Tab.other n x = d at HF HPC
    by_cases h1 : q = 1
    · subst h1
      obtain rfl : ans = !pr := by rw [HM.out, if_pos rfl]
      go_enter Tryz.func58, Tryz.ntmps58
      go_wp2_with fail
      refine HF.out.mono ?_
      rintro e w1 ⟨rfl, k1⟩
      have HK := Lib.hid (bx_kept k1 x.what x.a x.b c d)
      obtain ⟨W3, hW3⟩ : ∃ W3, bxA w1 x.what x.a x.b c d = W3 := ⟨_, rfl⟩
      obtain ⟨b8, b9⟩ := bx_ends w1 x.what x.a x.b c d
      rw [hW3] at HK b8 b9
      have B9 := Lib.hid b9
      have p0 := b8.cell 0
      have p1 := b8.cell 1
      have p2 := b8.cell 2
      simp only [List.getElem?_toArray, List.getElem?_cons_zero, List.getElem?_cons_succ] at p0 p1 p2
      have HW3 := Lib.hid hW3
      clear hW3 b8 b9 k1
      go_wp2_with fail
      refine (HKD.out _).mono ?_
      rintro e w2 ⟨rfl, k2⟩
      rw [show (w1.alloc (.cells #[.int .i64 x.what, .string x.a, .string x.b] 80)).alloc (.cells #[.string c, .string d] 138) = W3 from HW3.out] at k2
      have HK2 := Lib.hid (HK.out.trans k2)
      have B9' := B9.out.kept k2
      have r0 := B9'.cell 0
      have r1 := B9'.cell 1
      simp only [List.getElem?_toArray, List.getElem?_cons_zero, List.getElem?_cons_succ] at r0 r1
      have HPD := Lib.hid (HPC.out w2 HK2.out)
      clear p0 p1 p2 B9' k2
      go_wp2_with fail
      refine HPD.out.mono ?_
      rintro e w3 ⟨rfl, k3⟩
      have HK3 := Lib.hid (HK2.out.trans k3)
      clear k3
      go_wp2_with fail
      go_ret2
      exact ⟨rfl, HK3.out⟩
    · have hq1 : (q == 1) = false := by simpa using h1
      obtain rfl : ans = decide (0 < n) := by rw [HM.out, if_neg h1]
      go_enter Tryz.func58, Tryz.ntmps58
      go_wp2_with fail
      refine HF.out.mono ?_
      rintro e w1 ⟨rfl, k1⟩
      have HK := Lib.hid (bx_kept k1 x.what x.a x.b c d)
      obtain ⟨W3, hW3⟩ : ∃ W3, bxA w1 x.what x.a x.b c d = W3 := ⟨_, rfl⟩
      obtain ⟨b8, b9⟩ := bx_ends w1 x.what x.a x.b c d
      rw [hW3] at HK b8 b9
      have p0 := b8.cell 0
      have p1 := b8.cell 1
      have p2 := b8.cell 2
      simp only [List.getElem?_toArray, List.getElem?_cons_zero, List.getElem?_cons_succ] at p0 p1 p2
      have HW3 := Lib.hid hW3
      clear hW3 b8 b9 k1
      go_wp2_with fail
      refine (HKD.out _).mono ?_
      rintro e w2 ⟨rfl, k2⟩
      rw [show (w1.alloc (.cells #[.int .i64 x.what, .string x.a, .string x.b] 80)).alloc (.cells #[.string c, .string d] 138) = W3 from HW3.out] at k2
      have HK2 := Lib.hid (HK.out.trans k2)
      clear p0 p1 p2 k2
      go_wp2_with fail
      go_ret2
      exact ⟨rfl, HK2.out⟩

theorem isCast_c (t : List Tab.C) (ta : Option Addr) (tc : Nat) (a b : ByteArray) (w : World) (hTb : Tb w) (ht : TabAt w (.slice ta t.length tc) t) (hS : Small t) (ha : a.size ≤ maxLen) (hb : b.size ≤ maxLen) :
    Calls Tryz.prog 120 #[.slice ta t.length tc, .agg #[.string a, .string b]] w fun e w' => e = .returned (.bool (Tab.isCast t a b)) ∧ Kept w w' := by
  have HG := Lib.hid (fun (W : World) (k : Kept w W) => goes_cc t ta tc a b W (hTb.kept k) (tab_kept ht k) hS ha hb)
  have HB := Lib.hid (fun (W : World) (k : Kept w W) => sub_c t ta tc a b W (hTb.kept k) (tab_kept ht k) hS)
  unfold Tab.isCast
  generalize Tab.goes t a b = g at HG ⊢
  generalize Tab.sub t a b = s at HB ⊢
  have B3 := Lib.hid (Blk.new w 138 #[.string a, .string b])
  have HK := Lib.hid ((Kept.refl w).alloc (.cells #[.string a, .string b] 138))
  obtain ⟨W1, hW1⟩ : ∃ W1, w.alloc (.cells #[.string a, .string b] 138) = W1 := ⟨_, rfl⟩
  rw [hW1] at B3 HK
  have p0 := B3.out.cell 0
  have p1 := B3.out.cell 1
  simp only [List.getElem?_toArray, List.getElem?_cons_zero, List.getElem?_cons_succ] at p0 p1
  have HG1 := Lib.hid (HG.out W1 HK.out)
  have HW1 := Lib.hid hW1
  clear hTb ht hS HG hW1
  go_enter Tryz.func120, Tryz.ntmps120
  go_wp2_with fail
  rw [show w.alloc (.cells #[.string a, .string b] 138) = W1 from HW1.out]
  go_wp2_with fail
  refine HG1.out.mono ?_
  rintro e w2 ⟨rfl, k2⟩
  have HK2 := Lib.hid (HK.out.trans k2)
  have B3' := B3.out.kept k2
  have r0 := B3'.cell 0
  have r1 := B3'.cell 1
  simp only [List.getElem?_toArray, List.getElem?_cons_zero, List.getElem?_cons_succ] at r0 r1
  have HB2 := Lib.hid (HB.out w2 HK2.out)
  clear p0 p1 k2 B3' HB
  cases g with
  | false =>
    go_wp2_with fail
    go_ret
    exact ⟨rfl, HK2.out⟩
  | true =>
    go_wp2_with fail
    refine HB2.out.mono ?_
    rintro e w3 ⟨rfl, k3⟩
    have HK3 := Lib.hid (HK2.out.trans k3)
    clear k3
    cases s with
    | false =>
      go_wp2_with fail
      go_ret
      exact ⟨rfl, HK3.out⟩
    | true =>
      go_wp2_with fail
      go_ret
      exact ⟨rfl, HK3.out⟩

end Go.Proofs.YthooiofaicdhgaaGreatDoor
