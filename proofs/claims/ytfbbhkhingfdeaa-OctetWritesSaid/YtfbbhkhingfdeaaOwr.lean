/- OctetWrites: a writer beside the answer's. -/
import Derived.Test.YtfbbhkhingfdeaaOvr
import Derived.Test.YtfbbhkhingfdeaaFrm
import Derived.Deep.RegionWith
set_option linter.unusedSimpArgs false
set_option linter.unusedVariables false
namespace Go.Proofs.Ytfbbhkhingfdeaa
open Go.ChangeShapes Go.WideShapes Go.ChangeAt Go.RowKit

/-- Two writers that have nothing in common, made behind w. -/
def WW (w : World) (b1 b2 : Nat) (most : Int) (s1 s2 : Oct.Ws) (wr : World) : Prop :=
  ∃ O1 O2 : Nat → Prop, Kept w wr ∧ Wr wr O1 b1 most s1 ∧ Wx wr O2 b2 most s2 ∧ (∀ g, O1 g → w.heap.size ≤ g) ∧ (∀ g, O2 g → w.heap.size ≤ g) ∧ (∀ g, O1 g → ¬ O2 g)

section
variable {w wr w' : World} {b1 b2 : Nat} {most : Int} {s1 s2 s' : Oct.Ws}
theorem WW.from (h : WW w b1 b2 most s1 s2 wr) : Kept w wr := by
  obtain ⟨_, _, h, _⟩ := h
  exact h
theorem WW.kept (h : WW w b1 b2 most s1 s2 wr) (k : Kept wr w') : WW w b1 b2 most s1 s2 w' := by
  obtain ⟨O1, O2, h1, h2, h3, h4, h5, h6⟩ := h
  exact ⟨O1, O2, h1.trans k, h2.kept k, h3.kept k, h4, h5, h6⟩
theorem WW.one {O1 O2 : Nat → Prop} {e : Ending} (h1 : Kept w wr) (h3 : Wx wr O2 b2 most s2) (h4 : ∀ g, O1 g → w.heap.size ≤ g) (h5 : ∀ g, O2 g → w.heap.size ≤ g) (h6 : ∀ g, O1 g → ¬ O2 g) (h : WrPost O1 b1 most s' wr e w') :
    e = .returned (.int .i64 s'.2) ∧ WW w b1 b2 most s' s2 w' := by
  obtain ⟨he, O', hw, hg, ho⟩ := h
  have hs := h1.size
  refine ⟨he, O', O2, h1.only ho rfl h4, hw, h3.only ho (fun g a b => h6 g b a), ?_, h5, ?_⟩
  · intro g hk
    rcases hg g hk with a | a
    · exact h4 g a
    · omega
  · intro g hk hk2
    rcases hg g hk with a | a
    · exact h6 g a hk2
    · have := h3.lt g hk2; omega
theorem WW.two {O1 O2 : Nat → Prop} {e : Ending} (h1 : Kept w wr) (h2 : Wr wr O1 b1 most s1) (h4 : ∀ g, O1 g → w.heap.size ≤ g) (h5 : ∀ g, O2 g → w.heap.size ≤ g) (h6 : ∀ g, O1 g → ¬ O2 g) (h : WxPost O2 b2 most s' wr e w') :
    e = .returned (.int .i64 s'.2) ∧ WW w b1 b2 most s1 s' w' := by
  obtain ⟨he, O', hw, hg, ho⟩ := h
  have hs := h1.size
  refine ⟨he, O1, O', h1.only ho rfl h5, h2.only ho (fun g a b => h6 g a b), hw, h4, ?_, ?_⟩
  · intro g hk
    rcases hg g hk with a | a
    · exact h5 g a
    · omega
  · intro g hk hk2
    rcases hg g hk2 with a | a
    · exact h6 g hk a
    · have := h2.lt g hk; omega

theorem ww_num (n : Int) (hn : n ≤ 9223372036854775807) (h : WW w b1 b2 most s1 s2 wr) :
    Calls Try.prog 12 #[.pointer (some ⟨b1, 0, none⟩), .int .i64 n] wr fun e w' => e = .returned (.int .i64 (Oct.put most s1 (Oct.natO n) []).2) ∧ WW w b1 b2 most (Oct.put most s1 (Oct.natO n) []) s2 w' := by
  obtain ⟨O1, O2, h1, h2, h3, h4, h5, h6⟩ := h
  exact (numW_c O1 b1 most s1 n wr hn h2).mono fun e w' hp => WW.one h1 h3 h4 h5 h6 hp
theorem ww_whole (n : Int) (hm : -9223372036854775808 ≤ n) (hn : n ≤ 9223372036854775807) (h : WW w b1 b2 most s1 s2 wr) :
    Calls Try.prog 14 #[.pointer (some ⟨b1, 0, none⟩), .int .i64 n] wr fun e w' => e = .returned (.int .i64 (Oct.put most s1 (Oct.zigO n) []).2) ∧ WW w b1 b2 most (Oct.put most s1 (Oct.zigO n) []) s2 w' := by
  obtain ⟨O1, O2, h1, h2, h3, h4, h5, h6⟩ := h
  exact (wholeW_c O1 b1 most s1 n wr hm hn h2).mono fun e w' hp => WW.one h1 h3 h4 h5 h6 hp
theorem ww_word (s : ByteArray) (hs : s.size ≤ 1099511627776) (h : WW w b1 b2 most s1 s2 wr) :
    Calls Try.prog 16 #[.pointer (some ⟨b1, 0, none⟩), .string s] wr fun e w' => e = .returned (.int .i64 (Oct.put most s1 (some s.size) s.data.toList).2) ∧ WW w b1 b2 most (Oct.put most s1 (some s.size) s.data.toList) s2 w' := by
  obtain ⟨O1, O2, h1, h2, h3, h4, h5, h6⟩ := h
  exact (wordW_c O1 b1 most s1 s wr hs h2).mono fun e w' hp => WW.one h1 h3 h4 h5 h6 hp
theorem wx_num (n : Int) (hn : n ≤ 9223372036854775807) (h : WW w b1 b2 most s1 s2 wr) :
    Calls Try.prog 13 #[.pointer (some ⟨b2, 0, none⟩), .int .i64 n] wr fun e w' => e = .returned (.int .i64 (Oct.put most s2 (Oct.natO n) []).2) ∧ WW w b1 b2 most s1 (Oct.put most s2 (Oct.natO n) []) w' := by
  obtain ⟨O1, O2, h1, h2, h3, h4, h5, h6⟩ := h
  exact (numX_c O2 b2 most s2 n wr hn h3).mono fun e w' hp => WW.two h1 h2 h4 h5 h6 hp
theorem wx_whole (n : Int) (hm : -9223372036854775808 ≤ n) (hn : n ≤ 9223372036854775807) (h : WW w b1 b2 most s1 s2 wr) :
    Calls Try.prog 15 #[.pointer (some ⟨b2, 0, none⟩), .int .i64 n] wr fun e w' => e = .returned (.int .i64 (Oct.put most s2 (Oct.zigO n) []).2) ∧ WW w b1 b2 most s1 (Oct.put most s2 (Oct.zigO n) []) w' := by
  obtain ⟨O1, O2, h1, h2, h3, h4, h5, h6⟩ := h
  exact (wholeX_c O2 b2 most s2 n wr hm hn h3).mono fun e w' hp => WW.two h1 h2 h4 h5 h6 hp
theorem wx_word (s : ByteArray) (hs : s.size ≤ 1099511627776) (h : WW w b1 b2 most s1 s2 wr) :
    Calls Try.prog 17 #[.pointer (some ⟨b2, 0, none⟩), .string s] wr fun e w' => e = .returned (.int .i64 (Oct.put most s2 (some s.size) s.data.toList).2) ∧ WW w b1 b2 most s1 (Oct.put most s2 (some s.size) s.data.toList) w' := by
  obtain ⟨O1, O2, h1, h2, h3, h4, h5, h6⟩ := h
  exact (wordX_c O2 b2 most s2 s wr hs h3).mono fun e w' hp => WW.two h1 h2 h4 h5 h6 hp

/-- What a writer shows: bytes that read as these, in new memory; or its error. -/
def Shown (st : Oct.Ws) (wr : World) (e : Ending) (w' : World) : Prop :=
  ∃ v bs, e = .returned (.tuple #[v, .int .i64 st.2]) ∧ NewRow bs wr v w' ∧ bs = if st.2 = 0 then st.1 else []
theorem BytesPost.shown {st : Oct.Ws} {e : Ending} (h : BytesPost st wr e w') : Shown st wr e w' := by
  rcases h with ⟨h0, v, rfl, h⟩ | ⟨h0, rfl, h⟩
  · exact ⟨v, st.1, by rw [h0], h, by rw [if_pos h0]⟩
  · exact ⟨_, [], rfl, ⟨Row.nil _, h, fun g e => by cases e⟩, by rw [if_neg h0]⟩
theorem ww_bytes (h : WW w b1 b2 most s1 s2 wr) : Calls Try.prog 18 #[.pointer (some ⟨b1, 0, none⟩)] wr (Shown s1 wr) := by
  obtain ⟨O1, O2, h1, h2, h3, h4, h5, h6⟩ := h
  exact (bytesW_c O1 b1 most s1 wr h2).mono fun e w' hp => BytesPost.shown hp
theorem wx_bytes (h : WW w b1 b2 most s1 s2 wr) : Calls Try.prog 19 #[.pointer (some ⟨b2, 0, none⟩)] wr (Shown s2 wr) := by
  obtain ⟨O1, O2, h1, h2, h3, h4, h5, h6⟩ := h
  exact (bytesX_c O2 b2 most s2 wr h3).mono fun e w' hp => BytesPost.shown hp

/-- The bytes shown are written over: the writers stay. -/
theorem WW.over {v : Value} {w1 w2 : World} (h : WW w b1 b2 most s1 s2 wr) (hv : ∀ g, v.ownBlock = some g → wr.heap.size ≤ g) (k : Kept wr w1) (ho : Only (fun g => v.ownBlock = some g) w1 w2) : WW w b1 b2 most s1 s2 w2 := by
  obtain ⟨O1, O2, h1, h2, h3, h4, h5, h6⟩ := h
  have l1 := h2.lt
  have l2 := h3.lt
  have hs := h1.size
  have n1 : ∀ g, O1 g → ¬ v.ownBlock = some g := fun g a e => by have := hv g e; have := l1 g a; omega
  have n2 : ∀ g, O2 g → ¬ v.ownBlock = some g := fun g a e => by have := hv g e; have := l2 g a; omega
  exact ⟨O1, O2, (h1.trans k).only (n₀ := w.heap.size) ho rfl (fun g e => by have := hv g e; omega), (h2.kept k).only ho n1, (h3.kept k).only ho n2, h4, h5, h6⟩
end

set_option maxRecDepth 100000 in
set_option maxHeartbeats 3200000 in
theorem writes_all (most : Int) (a : Option Addr) (cap : Nat) (l : List Itm) (w : World) (m1 : -9223372036854775808 ≤ most) (m2 : most ≤ 9223372036854775807) (hA : Has w a l) (hl : l.length ≤ cap) (hcm : cap ≤ maxLen) :
    Calls Try.prog 3 #[.int .i64 most, .slice a l.length cap] w fun e w' => e = .returned (.bool true) ∧ Kept w w' := by
  have HLG := Lib.hid (fun w' (k : Kept w w') => long_c a l cap w' hl hcm (hA.kept k))
  by_cases hm : most < 0 ∨ 1048576 < most
  · clear hA
    go_enter Try.func3, Try.ntmps3
    go_wp2_with fail
    refine (newW_no most _ hm).mono ?_
    rintro e w1 ⟨rfl, k1⟩
    have HK1 := Lib.hid k1
    clear k1
    go_wp2_with fail
    refine (newX_no most _ hm).mono ?_
    rintro e w2 ⟨rfl, k2⟩
    have HK2 := Lib.hid (HK1.out.trans k2)
    clear k2
    go_wp2_with fail
    refine (awake_c _).mono ?_
    rintro e w3 ⟨rfl, k3⟩
    have HK3 := Lib.hid (HK2.out.trans k3)
    clear k3
    go_wp2_with fail
    go_ret
    exact ⟨rfl, HK3.out⟩
  have h0 : 0 ≤ most := by omega
  have h1 : most ≤ 1048576 := by omega
  clear hm
  cases hlong : longB l with
  | true =>
    rw [hlong] at HLG
    clear hA hlong
    go_enter Try.func3, Try.ntmps3
    go_wp2_with fail
    refine (newW_c most _ h0 h1).mono ?_
    rintro e w1 ⟨rfl, k1, q1⟩
    have HK1 := Lib.hid k1
    clear k1 q1
    go_wp2_with fail
    refine (newX_c most _ h0 h1).mono ?_
    rintro e w2 ⟨rfl, k2, q2⟩
    have HK2 := Lib.hid (HK1.out.trans k2)
    clear k2 q2
    go_wp2_with fail
    refine (HLG.out _ HK2.out).mono ?_
    rintro e w3 ⟨rfl, rfl⟩
    go_wp2_with fail
    refine (awake_c _).mono ?_
    rintro e w3 ⟨rfl, k3⟩
    have HK3 := Lib.hid (HK2.out.trans k3)
    clear k3
    go_wp2_with fail
    go_ret
    exact ⟨rfl, HK3.out⟩
  | false =>
    rw [hlong] at HLG
    obtain ⟨h40, h100⟩ := not_long hlong
    have HA := Lib.hid hA
    have h40I : (l.length : Int) ≤ 40 := by omega
    have HXS := Lib.hid (fun (k : Nat) (x : Itm) (hx : l[k]? = some x) => show x.txt.size ≤ 1099511627776 from by have := h100 x (List.mem_of_getElem? hx); omega)
    unfold maxLen at hcm
    clear hA hlong h100
    go_enter Try.func3, Try.ntmps3
    go_wp2_with fail
    refine (newW_c most _ h0 h1).mono ?_
    rintro e w1 ⟨rfl, k1, q1⟩
    have HK1 := Lib.hid k1
    have HQ1 := Lib.hid q1
    clear k1 q1
    go_wp2_with fail
    refine (newX_c most _ h0 h1).mono ?_
    rintro e w2 ⟨rfl, k2, q2⟩
    have HW0 := Lib.hid (show WW w w.heap.size w1.heap.size most ([], 0) ([], 0) w2 from
      ⟨(· = w.heap.size), (· = w1.heap.size), HK1.out.trans k2, HQ1.out.kept k2, q2, fun g e => by omega, fun g e => by have := HK1.out.size; omega, fun g e e2 => by have := HQ1.out.lt w.heap.size rfl; omega⟩)
    clear k2 q2 HQ1
    generalize w.heap.size = b1 at *
    generalize w1.heap.size = b2 at *
    go_wp2_with fail
    refine (HLG.out _ HW0.out.from).mono ?_
    rintro e w3 ⟨rfl, rfl⟩
    go_wp2_with fail
    go_loopw [9] (fun s9 wr => ∃ (k : Nat) (st : Oct.Ws), s9 = .int .i64 k ∧ k ≤ l.length ∧ WW w b1 b2 most st st wr) (fun s9 _ => l.length - (intOf s9).toNat)
    case atStart => exact ⟨0, _, rfl, by omega, HW0.out⟩
    case round =>
      clear HW0
      obtain ⟨k, st, rfl, hk, hW⟩ := hrel
      by_cases hkl : k < l.length
      · obtain ⟨ab, off, x, rfl, hx, hok, cw0, cw1, cw2⟩ := HA.out.at hkl
        have hkI : (k : Int) < (l.length : Int) := by omega
        have hs := HXS.out k x hx
        obtain ⟨⟨x1, x2⟩, ⟨x3, x4⟩, x5⟩ := hok
        obtain ⟨kind, num, txt⟩ := x
        dsimp only at *
        have c0 := hW.from.cellA cw0
        have c1 := hW.from.cellA cw1
        have c2 := hW.from.cellA cw2
        have CW1 := Lib.hid cw1
        have CW2 := Lib.hid cw2
        have HW := Lib.hid hW
        clear hW cw0 cw1 cw2 hx
        by_cases h0 : kind = 0
        · subst h0
          go_wp2_with fail
          go_region_with (first
            | (go_at_call 12; refine (ww_num num x4 (HW.out.kept (Kept.refl _).drew)).mono ?_; rintro e w4 ⟨rfl, hW1⟩; have d1 := hW1.from.cellA CW1.out)
            | (go_at_call 13; refine (wx_num num x4 hW1).mono ?_; rintro e w5 ⟨rfl, hW2⟩))
          all_goals
            have HS := Lib.hid hW2
            clear hW1 hW2 d1 HW
            generalize (Oct.put _ _ _ _) = st' at HS ⊢
            go_wp2_with fail
            refine (ww_bytes HS.out).mono ?_
            rintro e w6 ⟨va, bs, rfl, hn, hbs⟩
            have HN := Lib.hid hn
            have HB := Lib.hid hbs
            have HS6 := Lib.hid (HS.out.kept hn.2.1)
            clear hn hbs
            go_wp2_with fail
            refine (wx_bytes HS6.out).mono ?_
            rintro e w7 ⟨vb, bs2, rfl, hn2, hbs2⟩
            obtain rfl : bs2 = bs := hbs2.trans HB.out.symm
            have HN2 := Lib.hid hn2
            clear hn2 hbs2
            go_wp2_with fail
            refine (sameB_t va vb bs2 w7 (HN.out.1.str.kept HN2.out.2.1) HN2.out.1.str).mono ?_
            rintro e w8 ⟨rfl, rfl⟩
            go_wp2_with fail
            refine (over_c va bs2 w7 (HN.out.1.only (S := fun _ => False) (Only.of_kept HN2.out.2.1) (fun _ _ h => h))).mono ?_
            rintro e w8 ⟨⟨r, rfl⟩, ho⟩
            have HS8 := Lib.hid (HS.out.over HN.out.2.2 (HN.out.2.1.trans HN2.out.2.1) ho)
            clear ho
            go_wp2_with fail
            go_roundw
            case rel => exact ⟨k + 1, _, by go_num, by omega, HS8.out⟩
            case measure => simp [intOf]; omega
        by_cases h1' : kind = 1
        · subst h1'
          clear h0
          go_wp2_with fail
          go_region_with (first
            | (go_at_call 14; refine (ww_whole num x3 x4 (HW.out.kept (Kept.refl _).drew)).mono ?_; rintro e w4 ⟨rfl, hW1⟩; have d1 := hW1.from.cellA CW1.out)
            | (go_at_call 15; refine (wx_whole num x3 x4 hW1).mono ?_; rintro e w5 ⟨rfl, hW2⟩))
          all_goals
            have HS := Lib.hid hW2
            clear hW1 hW2 d1 HW
            generalize (Oct.put _ _ _ _) = st' at HS ⊢
            go_wp2_with fail
            refine (ww_bytes HS.out).mono ?_
            rintro e w6 ⟨va, bs, rfl, hn, hbs⟩
            have HN := Lib.hid hn
            have HB := Lib.hid hbs
            have HS6 := Lib.hid (HS.out.kept hn.2.1)
            clear hn hbs
            go_wp2_with fail
            refine (wx_bytes HS6.out).mono ?_
            rintro e w7 ⟨vb, bs2, rfl, hn2, hbs2⟩
            obtain rfl : bs2 = bs := hbs2.trans HB.out.symm
            have HN2 := Lib.hid hn2
            clear hn2 hbs2
            go_wp2_with fail
            refine (sameB_t va vb bs2 w7 (HN.out.1.str.kept HN2.out.2.1) HN2.out.1.str).mono ?_
            rintro e w8 ⟨rfl, rfl⟩
            go_wp2_with fail
            refine (over_c va bs2 w7 (HN.out.1.only (S := fun _ => False) (Only.of_kept HN2.out.2.1) (fun _ _ h => h))).mono ?_
            rintro e w8 ⟨⟨r, rfl⟩, ho⟩
            have HS8 := Lib.hid (HS.out.over HN.out.2.2 (HN.out.2.1.trans HN2.out.2.1) ho)
            clear ho
            go_wp2_with fail
            go_roundw
            case rel => exact ⟨k + 1, _, by go_num, by omega, HS8.out⟩
            case measure => simp [intOf]; omega
        by_cases h2' : kind = 2
        · subst h2'
          clear h0 h1'
          go_wp2_with fail
          go_region_with (first
            | (go_at_call 16; refine (ww_word txt hs (HW.out.kept (Kept.refl _).drew)).mono ?_; rintro e w4 ⟨rfl, hW1⟩; have d1 := hW1.from.cellA CW2.out)
            | (go_at_call 17; refine (wx_word txt hs hW1).mono ?_; rintro e w5 ⟨rfl, hW2⟩))
          all_goals
            have HS := Lib.hid hW2
            clear hW1 hW2 d1 HW
            generalize (Oct.put _ _ _ _) = st' at HS ⊢
            go_wp2_with fail
            refine (ww_bytes HS.out).mono ?_
            rintro e w6 ⟨va, bs, rfl, hn, hbs⟩
            have HN := Lib.hid hn
            have HB := Lib.hid hbs
            have HS6 := Lib.hid (HS.out.kept hn.2.1)
            clear hn hbs
            go_wp2_with fail
            refine (wx_bytes HS6.out).mono ?_
            rintro e w7 ⟨vb, bs2, rfl, hn2, hbs2⟩
            obtain rfl : bs2 = bs := hbs2.trans HB.out.symm
            have HN2 := Lib.hid hn2
            clear hn2 hbs2
            go_wp2_with fail
            refine (sameB_t va vb bs2 w7 (HN.out.1.str.kept HN2.out.2.1) HN2.out.1.str).mono ?_
            rintro e w8 ⟨rfl, rfl⟩
            go_wp2_with fail
            refine (over_c va bs2 w7 (HN.out.1.only (S := fun _ => False) (Only.of_kept HN2.out.2.1) (fun _ _ h => h))).mono ?_
            rintro e w8 ⟨⟨r, rfl⟩, ho⟩
            have HS8 := Lib.hid (HS.out.over HN.out.2.2 (HN.out.2.1.trans HN2.out.2.1) ho)
            clear ho
            go_wp2_with fail
            go_roundw
            case rel => exact ⟨k + 1, _, by go_num, by omega, HS8.out⟩
            case measure => simp [intOf]; omega
        have k0 : (kind == 0) = false := by simpa using h0
        have k1 : (kind == 1) = false := by simpa using h1'
        have k2 : (kind == 2) = false := by simpa using h2'
        have HS := Lib.hid HW.out
        clear h0 h1' h2' HW
        go_wp2_with fail
        refine (ww_bytes HS.out).mono ?_
        rintro e w6 ⟨va, bs, rfl, hn, hbs⟩
        have HN := Lib.hid hn
        have HB := Lib.hid hbs
        have HS6 := Lib.hid (HS.out.kept hn.2.1)
        clear hn hbs
        go_wp2_with fail
        refine (wx_bytes HS6.out).mono ?_
        rintro e w7 ⟨vb, bs2, rfl, hn2, hbs2⟩
        obtain rfl : bs2 = bs := hbs2.trans HB.out.symm
        have HN2 := Lib.hid hn2
        clear hn2 hbs2
        go_wp2_with fail
        refine (sameB_t va vb bs2 w7 (HN.out.1.str.kept HN2.out.2.1) HN2.out.1.str).mono ?_
        rintro e w8 ⟨rfl, rfl⟩
        go_wp2_with fail
        refine (over_c va bs2 w7 (HN.out.1.only (S := fun _ => False) (Only.of_kept HN2.out.2.1) (fun _ _ h => h))).mono ?_
        rintro e w8 ⟨⟨r, rfl⟩, ho⟩
        have HS8 := Lib.hid (HS.out.over HN.out.2.2 (HN.out.2.1.trans HN2.out.2.1) ho)
        clear ho
        go_wp2_with fail
        go_roundw
        case rel => exact ⟨k + 1, _, by go_num, by omega, HS8.out⟩
        case measure => simp [intOf]; omega
      · have hkI : ¬ (k : Int) < (l.length : Int) := by omega
        have HW := Lib.hid hW.from
        clear hW
        go_wp2_with fail
        refine (awake_c _).mono ?_
        rintro e w3 ⟨rfl, k3⟩
        have HK3 := Lib.hid (HW.out.trans k3)
        clear k3
        go_wp2_with fail
        go_ret
        exact ⟨rfl, HK3.out⟩
end Go.Proofs.Ytfbbhkhingfdeaa
