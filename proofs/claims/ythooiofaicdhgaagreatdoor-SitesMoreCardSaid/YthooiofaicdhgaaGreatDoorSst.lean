/- The contract of sites.Text; the table of the kinds' words. -/
import Derived.Test.YthooiofaicdhgaaGreatDoorSsn
import Derived.Test.YthooiofaicdhgaaGreatDoorShelf
import Derived.Deep.RegionHeld3
set_option linter.unusedSimpArgs false
set_option linter.unusedVariables false
set_option maxRecDepth 100000
namespace Go.Proofs.YthooiofaicdhgaaGreatDoor
open Go.ChangeShapes Go.WideShapes Go.ChangeAt Go.RowKit

theorem joinExtra : Builder.Extra Tryz.prog Tryz.lays156_ren where
  sizeBuilder := by kernel_rfl
  liesBuilder := by kernel_rfl
  t5 := Tryz.underlying5
  a5 := Tryz.isAgg5
  z5 := Tryz.sizeOf5
  v5 := Tryz.zeroValue5
  infoByte := by kernel_rfl
  cellsByte := by kernel_rfl
  sizeByte := by kernel_rfl
  neB5 := by decide

theorem joinT_c (b c : Nat) (xs : List ByteArray) (sep : ByteArray) (w : World) (hcells : ∀ (j : Nat) x, xs[j]? = some x → w.cell? ⟨b, 0 + j, none⟩ = some (.string x)) (hbk : b < w.heap.size) (hN : xs.length ≤ 140737488355328) (hcap : xs.length ≤ c)
    (hlen : (Lib.join (xs.map (·.data.toList)) sep.data.toList).length ≤ 140737488355328) :
    Calls Tryz.prog 124 #[.slice (some ⟨b, 0, none⟩) xs.length c, .string sep] w fun e w' => e = .returned (.string ⟨(Lib.join (xs.map (·.data.toList)) sep.data.toList).toArray⟩) ∧ Kept w w' :=
  (Any.strings_Join Tryz.lays156 joinExtra b 0 c xs sep w hcells hbk hN hcap hlen).mono fun _ _ h => ⟨h.1, Kept.of_below h.2⟩
theorem itoa_c (i : Nat) (hi : i < 100) (w : World) : Calls Tryz.prog 125 #[.int .i64 i] w fun e w' => e = .returned (.string ⟨(Lib.decDigits i).toArray⟩) ∧ w' = w :=
  Any.strconv_Itoa_small Tryz.lays171 i hi w

def kwcs : Array Value := #[.string ⟨#[63]⟩, .string ⟨#[99, 97, 115, 116]⟩, .string ⟨#[103, 101, 116]⟩, .string ⟨#[112, 117, 116]⟩, .string ⟨#[99, 97, 108, 108]⟩, .string ⟨#[111, 112]⟩]
def Kw (w : World) : Prop := ∃ t fr, w.heap[0]? = some (.cells kwcs t fr)
theorem Kw.kept {w w' : World} (h : Kw w) (k : Kept w w') : Kw w' := by
  obtain ⟨t, fr, a⟩ := h
  exact ⟨t, fr, (k.block _ (Array.getElem?_eq_some_iff.1 a).1).trans a⟩
theorem Kw.cell {w : World} (h : Kw w) {q : Int} (h0 : 0 ≤ q) (h1 : q < 6) : w.cell? ⟨0, q.toNat, none⟩ = some (.string ⟨(Tab.kindW q).toArray⟩) := by
  obtain ⟨t, fr, a⟩ := h
  rw [cell_of_row w _ _ _ t fr a]
  have : q = 0 ∨ q = 1 ∨ q = 2 ∨ q = 3 ∨ q = 4 ∨ q = 5 := by omega
  rcases this with rfl | rfl | rfl | rfl | rfl | rfl <;> rfl

theorem dec_len {k : Nat} (h : k < 100) : (Lib.decDigits k).length ≤ 2 := by
  rw [Lib.decDigits]
  split
  · simp
  · rw [Lib.decDigits, dif_pos (by omega)]
    simp
theorem kindW_len (q : Int) : (Tab.kindW q).length ≤ 4 := by
  unfold Tab.kindW
  repeat' split
  all_goals decide
theorem join6_len (p q r s t u : List UInt8) : (Lib.join [p, q, r, s, t, u] [32]).length = p.length + q.length + r.length + s.length + t.length + u.length + 5 := by
  rw [Lib.join_cons, List.length_append, Lib.joinTail_length]
  simp [Lib.lens]
  omega

theorem join6_c (dk kw : List UInt8) (sg x y : ByteArray) (W : World) (h1 : dk.length ≤ 2) (h2 : sg.size ≤ 1) (h3 : kw.length ≤ 4) (h4 : x.size ≤ 1000) (h5 : y.size ≤ 1000) :
    Calls Tryz.prog 124 #[.slice (some ⟨W.heap.size, 0, none⟩) 6 6, .string ⟨#[32]⟩] (W.alloc (.cells #[.string ⟨dk.toArray⟩, .string sg, .string ⟨kw.toArray⟩, .string x, .string ⟨#[62]⟩, .string y] 9)) fun e w' =>
      e = .returned (.string ⟨(Lib.join [dk, sg.data.toList, kw, x.data.toList, [62], y.data.toList] [32]).toArray⟩) ∧ Kept (W.alloc (.cells #[.string ⟨dk.toArray⟩, .string sg, .string ⟨kw.toArray⟩, .string x, .string ⟨#[62]⟩, .string y] 9)) w' := by
  have hB := Blk.new W 9 #[.string ⟨dk.toArray⟩, .string sg, .string ⟨kw.toArray⟩, .string x, .string ⟨#[62]⟩, .string y]
  have h := joinT_c W.heap.size 6 [⟨dk.toArray⟩, sg, ⟨kw.toArray⟩, x, ⟨#[62]⟩, y] ⟨#[32]⟩ (W.alloc (.cells #[.string ⟨dk.toArray⟩, .string sg, .string ⟨kw.toArray⟩, .string x, .string ⟨#[62]⟩, .string y] 9)) (by
    intro j z hz
    rw [Nat.zero_add, hB.cell]
    match j, hz with
    | 0, hz => cases hz; rfl
    | 1, hz => cases hz; rfl
    | 2, hz => cases hz; rfl
    | 3, hz => cases hz; rfl
    | 4, hz => cases hz; rfl
    | 5, hz => cases hz; rfl) hB.lt (by simp) (by simp) (by
      have e1 : sg.data.toList.length = sg.size := Array.length_toList
      have e2 : x.data.toList.length = x.size := Array.length_toList
      have e3 : y.data.toList.length = y.size := Array.length_toList
      have := join6_len dk sg.data.toList kw x.data.toList [62] y.data.toList
      simp only [List.map_cons, List.map_nil]
      show (Lib.join [dk, sg.data.toList, kw, x.data.toList, [62], y.data.toList] [32]).length ≤ _
      rw [this, e1, e2, e3]
      simp
      omega)
  exact h

def textV (l : List Tab.St) (n : Int) : Value := match Tab.siteAt l n with
  | none => .tuple #[.string ⟨#[]⟩, .int .i64 3]
  | some x => .tuple #[.string (Tab.textS n x), .int .i64 0]

set_option maxHeartbeats 8000000 in
theorem textS_c (l : List Tab.St) (a : Option Addr) (cp : Nat) (n : Int) (w : World) (hKw : Kw w) (h : SitesAt w (.slice a l.length cp) l) (hn1 : -9223372036854775808 ≤ n) (hn2 : n ≤ 9223372036854775807) (hl : l.length < 100) (hz : ∀ x ∈ l, x.a.size ≤ 1000 ∧ x.b.size ≤ 1000) :
    Calls Tryz.prog 60 #[.slice a l.length cp, .int .i64 n] w fun e w' => e = .returned (textV l n) ∧ Kept w w' := by
  have HF := Lib.hid (findSt_c l a cp n w h hn1 hn2)
  have HKW := Lib.hid hKw
  unfold FoundS at HF
  clear h hKw
  cases hs : Tab.siteAt l n with
  | none =>
    rw [hs] at HF
    simp only at HF
    rw [show textV l n = .tuple #[.string ⟨#[]⟩, .int .i64 3] by unfold textV; rw [hs]]
    clear hs
    go_enter Tryz.func60, Tryz.ntmps60
    go_wp2_with fail
    refine HF.out.mono ?_
    rintro e w1 ⟨rfl, k1⟩
    have HK := Lib.hid (bx_kept k1 0 ⟨#[]⟩ ⟨#[]⟩ ⟨#[]⟩ ⟨#[]⟩)
    clear k1
    go_wp2_with fail
    go_ret2
    exact ⟨rfl, HK.out⟩
  | some x =>
    rw [hs] at HF
    simp only at HF
    rw [show textV l n = .tuple #[.string (Tab.textS n x), .int .i64 0] by unfold textV; rw [hs]]
    have hxm : x ∈ l := by
      unfold Tab.siteAt at hs
      split at hs
      · exact List.mem_of_getElem? hs
      · split at hs
        · exact List.mem_of_getElem? hs
        · cases hs
    have hab : ¬ n = 0 ∧ n ≤ l.length ∧ -(l.length : Int) ≤ n := by
      refine ⟨?_, ?_, ?_⟩
      · intro e
        rw [Tab.siteAt_none (.inl e)] at hs; cases hs
      · rcases Int.lt_or_le (l.length : Int) n with k | k
        · rw [Tab.siteAt_none (.inr (.inl k))] at hs; cases hs
        · exact k
      · rcases Int.lt_or_le n (-(l.length : Int)) with k | k
        · rw [Tab.siteAt_none (.inr (.inr k))] at hs; cases hs
        · exact k
    obtain ⟨za, zb⟩ := hz x hxm
    have HKD := Lib.hid (fun W => kindOf_c x.what x.a x.b W)
    obtain ⟨q, hq⟩ : ∃ q, Tab.kindS ⟨x.what, x.a, x.b⟩ = q := ⟨_, rfl⟩
    have hq0 := Tab.kind_range x
    rw [show Tab.kindS x = q from hq] at hq0
    obtain ⟨hq1, hq2⟩ := hq0
    rw [hq] at HKD
    have HT := Lib.hid (show Tab.textS n x = ⟨(Lib.join [Lib.decDigits n.natAbs, (if 0 < n then [43] else [45]), Tab.kindW q, x.a.data.toList, [62], x.b.data.toList] [32]).toArray⟩ by unfold Tab.textS; rw [show Tab.kindS x = q from hq])
    generalize Tab.textS n x = ans at HT ⊢
    generalize Tab.blamed n x = c at HF
    generalize Tab.other n x = d at HF
    have HWC := Lib.hid (fun (W : World) (k : Kept w W) => (HKW.out.kept k).cell hq1 hq2)
    have HKL := Lib.hid (kindW_len q)
    obtain ⟨kw, hkw⟩ : ∃ kw, Tab.kindW q = kw := ⟨_, rfl⟩
    rw [hkw] at HT HWC HKL
    clear hs hz hxm hq hkw
    by_cases hp : 0 < n
    · obtain ⟨k, rfl⟩ : ∃ k : Nat, n = k := ⟨n.toNat, by omega⟩
      have hk : k < 100 := by omega
      have hpn : ¬ (k : Int) < 0 := by omega
      rw [if_pos hp] at HT
      have HIT := Lib.hid (itoa_c k hk)
      have HDL := Lib.hid (dec_len hk)
      have HNA := Lib.hid (show ((k : Int).natAbs) = k by simp)
      rw [HNA.out] at HT
      clear hab hn1 hn2
      go_enter Tryz.func60, Tryz.ntmps60
      go_wp2_with fail
      refine HF.out.mono ?_
      rintro e w1 ⟨rfl, k1⟩
      have HK := Lib.hid (bx_kept k1 x.what x.a x.b c d)
      obtain ⟨W3, hW3⟩ : ∃ W3, bxA w1 x.what x.a x.b c d = W3 := ⟨_, rfl⟩
      have b8 := (bx_ends w1 x.what x.a x.b c d).1
      rw [hW3] at HK b8
      have p0 := b8.cell 0
      have p1 := b8.cell 1
      have p2 := b8.cell 2
      simp only [List.getElem?_toArray, List.getElem?_cons_zero, List.getElem?_cons_succ] at p0 p1 p2
      have pw := HWC.out W3 HK.out
      have HW3 := Lib.hid hW3
      clear hW3 b8 k1
      go_wp2_with fail
      rw [show (w1.alloc (.cells #[.int .i64 x.what, .string x.a, .string x.b] 80)).alloc (.cells #[.string c, .string d] 138) = W3 from HW3.out]
      go_region_held3 (fun W => W.cell? ⟨w1.heap.size, 0, none⟩ = some (.int .i64 x.what) ∧ W.cell? ⟨w1.heap.size, 1, none⟩ = some (.string x.a) ∧ W.cell? ⟨w1.heap.size, 2, none⟩ = some (.string x.b) ∧ W.cell? ⟨0, q.toNat, none⟩ = some (.string ⟨kw.toArray⟩) ∧ Kept W3 W)
        (first | (refine ⟨?_, ?_, ?_, ?_, ?_⟩ <;> first | assumption | (exact (Kept.refl _).drew) | (exact Kept.refl _) | (exact Kept.cell (by assumption) (by assumption)) | (exact Kept.trans (by assumption) (by assumption)) | (exact Kept.drew (by assumption)) | (exact Kept.alloc (by assumption) _) | (exact Kept.alloc (And.right (And.right (And.right (And.right (by assumption))))) _) | (go_keep; done)) | go_keep)
        (first | (go_at_call 125; refine (HIT.out _).mono ?_; rintro e w4 ⟨rfl, rfl⟩) | (go_at_call 119; refine (HKD.out _).mono ?_; rintro e w5 ⟨rfl, k5⟩; have k5 := (Kept.refl W3).drew.trans k5) | (go_at_call 124; refine (join6_c _ _ _ _ _ _ HDL.out (by decide) HKL.out za zb).mono ?_; rintro e w7 ⟨rfl, k7⟩; have kk := And.right (And.right (And.right (And.right (show _ ∧ _ ∧ _ ∧ _ ∧ Kept W3 _ by assumption)))); have k8 := Kept.trans kk k7))
      all_goals
        go_wp2_with fail
        go_ret2
        exact ⟨by rw [HT.out]; rfl, HK.out.trans (by first | assumption | (exact And.right (And.right (And.right (And.right (by assumption)))))) ⟩
    · obtain ⟨k, rfl⟩ : ∃ k : Nat, n = -(k : Int) := ⟨(-n).toNat, by omega⟩
      have hk : k < 100 := by omega
      have hpn : -(k : Int) < 0 := by omega
      have hneg : - -(k : Int) = (k : Int) := by omega
      rw [if_neg hp] at HT
      have HIT := Lib.hid (itoa_c k hk)
      have HDL := Lib.hid (dec_len hk)
      have HNA := Lib.hid (show ((-(k : Int)).natAbs) = k by simp)
      rw [HNA.out] at HT
      clear hab hn1 hn2 hp
      go_enter Tryz.func60, Tryz.ntmps60
      go_wp2_with fail
      refine HF.out.mono ?_
      rintro e w1 ⟨rfl, k1⟩
      have HK := Lib.hid (bx_kept k1 x.what x.a x.b c d)
      obtain ⟨W3, hW3⟩ : ∃ W3, bxA w1 x.what x.a x.b c d = W3 := ⟨_, rfl⟩
      have b8 := (bx_ends w1 x.what x.a x.b c d).1
      rw [hW3] at HK b8
      have p0 := b8.cell 0
      have p1 := b8.cell 1
      have p2 := b8.cell 2
      simp only [List.getElem?_toArray, List.getElem?_cons_zero, List.getElem?_cons_succ] at p0 p1 p2
      have pw := HWC.out W3 HK.out
      have HW3 := Lib.hid hW3
      clear hW3 b8 k1
      go_wp2_with fail
      rw [show (w1.alloc (.cells #[.int .i64 x.what, .string x.a, .string x.b] 80)).alloc (.cells #[.string c, .string d] 138) = W3 from HW3.out]
      go_region_held3 (fun W => W.cell? ⟨w1.heap.size, 0, none⟩ = some (.int .i64 x.what) ∧ W.cell? ⟨w1.heap.size, 1, none⟩ = some (.string x.a) ∧ W.cell? ⟨w1.heap.size, 2, none⟩ = some (.string x.b) ∧ W.cell? ⟨0, q.toNat, none⟩ = some (.string ⟨kw.toArray⟩) ∧ Kept W3 W)
        (first | (refine ⟨?_, ?_, ?_, ?_, ?_⟩ <;> first | assumption | (exact (Kept.refl _).drew) | (exact Kept.refl _) | (exact Kept.cell (by assumption) (by assumption)) | (exact Kept.trans (by assumption) (by assumption)) | (exact Kept.drew (by assumption)) | (exact Kept.alloc (by assumption) _) | (exact Kept.alloc (And.right (And.right (And.right (And.right (by assumption))))) _) | (go_keep; done)) | go_keep)
        (first | (go_at_call 125; refine (HIT.out _).mono ?_; rintro e w4 ⟨rfl, rfl⟩) | (go_at_call 119; refine (HKD.out _).mono ?_; rintro e w5 ⟨rfl, k5⟩; have k5 := (Kept.refl W3).drew.trans k5) | (go_at_call 124; refine (join6_c _ _ _ _ _ _ HDL.out (by decide) HKL.out za zb).mono ?_; rintro e w7 ⟨rfl, k7⟩; have kk := And.right (And.right (And.right (And.right (show _ ∧ _ ∧ _ ∧ _ ∧ Kept W3 _ by assumption)))); have k8 := Kept.trans kk k7))
      all_goals
        go_wp2_with fail
        go_ret2
        exact ⟨by rw [HT.out]; rfl, HK.out.trans (by first | assumption | (exact And.right (And.right (And.right (And.right (by assumption)))))) ⟩

end Go.Proofs.YthooiofaicdhgaaGreatDoor
