/- The document's answers for words: Name, Class, Base, Key, Kind, Type, Tag and OfTag. What was in the world stays as it was. -/
import Derived.Test.YtcaailiijmjdlaaGreatDoorRfn
set_option linter.unusedSimpArgs false
set_option linter.unusedVariables false
namespace Go.Proofs.YtcaailiijmjdlaaGreatDoor
open Go.ChangeShapes Go.WideShapes Go.ChangeAt Go.RowKit

theorem len_bs : Wrd.bs.length = 5 := rfl
theorem len_ws' : Wrd.ws.length = 24 := rfl

theorem kd0 {c : UInt8} : (Wrd.kd c == 0) = Wrd.smB c.toNat := by
  unfold Wrd.kd
  cases Wrd.smB c.toNat <;> cases Wrd.caB c.toNat <;> cases Wrd.diB c.toNat <;> rfl
theorem kd1 {c : UInt8} : (Wrd.kd c == 1) = Wrd.caB c.toNat := by
  unfold Wrd.kd
  have h : Wrd.caB c.toNat = true → Wrd.smB c.toNat = false := by
    unfold Wrd.caB Wrd.smB
    simp
    omega
  cases h1 : Wrd.caB c.toNat
  · cases Wrd.smB c.toNat <;> cases Wrd.diB c.toNat <;> rfl
  · rw [h h1]; rfl

theorem classR_c (s : ByteArray) (w : World) (hs : s.size ≤ 9223372036854775807) : Calls Tryz.prog 138 #[.string s] w fun e w' => e = .returned (.bool (Wrd.cls s)) ∧ w = w' := by
  unfold Wrd.cls
  rw [spelt_wrd]
  have H1 := Lib.hid (fun w => wordR_c s w hs)
  cases hw : wrd s with
  | false =>
    rw [hw] at H1
    clear hw
    go_enter Tryz.func138, Tryz.ntmps138
    go_wp2_with fail
    refine (H1.out _).mono ?_
    rintro e w1 ⟨rfl, rfl⟩
    go_wp2_with fail
    go_ret
    exact ⟨rfl, rfl⟩
  | true =>
    have hp := wrd_pos hw
    rw [hw] at H1
    rw [Wrd.head_at hp, kd1]
    have H2 := Lib.hid (fun w => greatR_v (s[0]'hp).toNat _ w rfl)
    generalize Wrd.caB (s[0]'hp).toNat = b at *
    clear hw
    go_enter Tryz.func138, Tryz.ntmps138
    go_wp2_with fail
    refine (H1.out _).mono ?_
    rintro e w1 ⟨rfl, rfl⟩
    go_wp2_with fail
    refine (H2.out _).mono ?_
    rintro e w1 ⟨rfl, rfl⟩
    go_wp2_with fail
    go_ret
    exact ⟨by cases b <;> rfl, rfl⟩

theorem kindR_c (s : ByteArray) (w : World) (hs : s.size ≤ 9223372036854775807) : Calls Tryz.prog 88 #[.string s] w fun e w' => e = .returned (.int .i64 (Wrd.kind s)) ∧ Kept w w' := by
  have H1 := Lib.hid (fun g c w ht => in_c g c Wrd.bs s w (by rw [len_bs]; omega) ht)
  have H2 := Lib.hid (fun w => classR_c s w hs)
  unfold Wrd.kind Wrd.base
  generalize Wrd.has Wrd.bs s = a at *
  generalize Wrd.cls s = c at *
  clear hs
  cases a
  · by_cases hq : s = ⟨#[63]⟩
    · have hb : (s.toList == [63]) = true := lit_yes hq
      rw [if_pos hq]
      clear hq
      go_enter Tryz.func88, Tryz.ntmps88
      go_wp2_with fail
      refine (basesR_c _).mono ?_
      rintro e w1 ⟨v, rfl, ⟨g, c, rfl, hg, ht⟩, k1⟩
      go_wp2_with fail
      refine (H1.out _ _ _ ht).mono ?_
      rintro e w2 ⟨rfl, rfl⟩
      go_wp2_with fail
      go_ret
      exact ⟨rfl, k1⟩
    · have hb : (s.toList == [63]) = false := lit_no hq
      rw [if_neg hq]
      clear hq
      cases c
      all_goals
        go_enter Tryz.func88, Tryz.ntmps88
        go_wp2_with fail
        refine (basesR_c _).mono ?_
        rintro e w1 ⟨v, rfl, ⟨g, c, rfl, hg, ht⟩, k1⟩
        go_wp2_with fail
        refine (H1.out _ _ _ ht).mono ?_
        rintro e w2 ⟨rfl, rfl⟩
        go_wp2_with fail
        refine (H2.out _).mono ?_
        rintro e w2 ⟨rfl, rfl⟩
        go_wp2_with fail
        go_ret
        exact ⟨rfl, k1⟩
  · go_enter Tryz.func88, Tryz.ntmps88
    go_wp2_with fail
    refine (basesR_c _).mono ?_
    rintro e w1 ⟨v, rfl, ⟨g, c, rfl, hg, ht⟩, k1⟩
    go_wp2_with fail
    refine (H1.out _ _ _ ht).mono ?_
    rintro e w2 ⟨rfl, rfl⟩
    go_wp2_with fail
    go_ret
    exact ⟨rfl, k1⟩

theorem kind_cases (s : ByteArray) : Wrd.kind s = 0 ∨ Wrd.kind s = 1 ∨ Wrd.kind s = 2 ∨ Wrd.kind s = 3 := by
  unfold Wrd.kind
  split
  · simp
  · split
    · simp
    · split <;> simp

theorem typeR_c (s : ByteArray) (w : World) (hs : s.size ≤ 9223372036854775807) : Calls Tryz.prog 46 #[.string s] w fun e w' => e = .returned (.bool (Wrd.typ s)) ∧ Kept w w' := by
  have H1 := Lib.hid (kindR_c s w hs)
  have hk := kind_cases s
  unfold Wrd.typ
  generalize Wrd.kind s = n at *
  rcases hk with rfl | rfl | rfl | rfl
  all_goals
    go_enter Tryz.func46, Tryz.ntmps46
    go_wp2_with fail
    refine (H1.out).mono ?_
    rintro e w1 ⟨rfl, k1⟩
    go_wp2_with fail
    go_ret
    exact ⟨rfl, k1⟩

theorem tagF_none {s : ByteArray} : ∀ {l : List ByteArray} {d : Nat}, s ∉ l → Wrd.tagF l d s = 0
  | [], _, _ => rfl
  | b :: r, d, h => by
    rw [tagF_no (by rintro rfl; simp at h)]
    exact tagF_none (fun e => h (List.mem_cons_of_mem _ e))
theorem tagF_at {s : ByteArray} : ∀ {l : List ByteArray} {d k : Nat} (hk : k < l.length), s ∉ l.take k → l[k] = s → Wrd.tagF l d s = d + k
  | b :: r, d, 0, _, _, e => tagF_yes e
  | b :: r, d, k + 1, hk, h, e => by
    simp only [List.take_succ_cons, List.mem_cons, not_or] at h
    rw [tagF_no (fun e => h.1 e.symm), tagF_at (k := k) (by simpa using hk) h.2 (by simpa using e)]
    omega

/-- What the document's Tag answers. -/
def TagRPost (s : ByteArray) (w : World) (e : Ending) (w' : World) : Prop :=
  e = .returned (.tuple #[.int .i64 (Wrd.tag s), .int .i64 (Wrd.tagE s)]) ∧ Kept w w'

set_option maxHeartbeats 1000000 in
theorem tagR_c (s : ByteArray) (w : World) : Calls Tryz.prog 52 #[.string s] w (TagRPost s w) := by
  go_enter Tryz.func52, Tryz.ntmps52
  go_wp2_with fail
  refine (basesR_c _).mono ?_
  rintro e w1 ⟨v, rfl, ⟨g, c, rfl, hg, ht⟩, k1⟩
  rw [len_bs]
  go_wp2_with fail
  go_loop [5] (fun i => ∃ k : Nat, k ≤ 5 ∧ i = .int .i64 k ∧ Hid (s ∉ Wrd.bs.take k)) (fun i => 5 - (intOf i).toNat)
  case atStart => exact ⟨0, by omega, rfl, Lib.hid (by simp)⟩
  case round =>
    obtain ⟨k, hk, rfl, he⟩ := hrel
    by_cases hlt : k < 5
    · have hc := ht.cell k hlt
      by_cases hx : Wrd.bs[k] = s
      · have HE := Lib.hid (show Wrd.tag s = k + 1 ∧ Wrd.tagE s = 0 from ⟨(tagF_at (d := 1) hlt he.out hx).trans (Nat.add_comm 1 k), if_pos (Wrd.has_iff.2 (show s ∈ Wrd.bs by rw [← hx]; exact List.getElem_mem _))⟩)
        have hb : (Wrd.bs[k].toList == s.toList) = true := by rw [hx]; exact beq_self_eq_true _
        clear hx ht
        generalize Wrd.bs[k] = x at *
        go_wp2
        go_ret2
        exact ⟨by rw [HE.out.1, HE.out.2]; rfl, k1⟩
      · have HN := Lib.hid (not_before he.out hlt hx)
        have hb := beq_no hx
        clear hx ht
        generalize Wrd.bs[k] = x at *
        go_wp2
        go_round
        case rel => exact ⟨k + 1, by omega, by go_num, HN⟩
        case measure => simp [intOf]; omega
    · obtain rfl : k = 5 := by omega
      have hn : s ∉ Wrd.bs := he.out
      have HE := Lib.hid (show Wrd.tag s = 0 ∧ Wrd.tagE s = 7 from ⟨tagF_none hn, if_neg (by rw [Wrd.base, Wrd.has_no hn]; decide)⟩)
      clear ht hn
      go_wp2
      go_ret2
      exact ⟨by rw [HE.out.1, HE.out.2]; rfl, k1⟩

theorem oft_out {n : Int} (h : n < 1 ∨ 5 < n) : Wrd.ofT n = ⟨#[]⟩ ∧ Wrd.ofE n = 7 := by
  have : Wrd.ofF Wrd.bs 1 n = (⟨#[]⟩, 7) := by
    unfold Wrd.bs
    simp only [Wrd.ofF]
    rw [if_neg (by omega), if_neg (by omega), if_neg (by omega), if_neg (by omega), if_neg (by omega)]
  unfold Wrd.ofT Wrd.ofE
  rw [this]
  exact ⟨rfl, rfl⟩

def OfRPost (n : Int) (w : World) (e : Ending) (w' : World) : Prop :=
  e = .returned (.tuple #[.string (Wrd.ofT n), .int .i64 (Wrd.ofE n)]) ∧ Kept w w'

set_option maxHeartbeats 1000000 in
theorem oftR_c (n : Int) (w : World) : Calls Tryz.prog 56 #[.int .i64 n] w (OfRPost n w) := by
  by_cases h1 : n < 1
  · have HE := Lib.hid (oft_out (.inl h1))
    go_enter Tryz.func56, Tryz.ntmps56
    go_wp2_with fail
    refine (basesR_c _).mono ?_
    rintro e w1 ⟨v, rfl, ⟨g, c, rfl, hg, ht⟩, k1⟩
    go_wp2_with fail
    go_ret2
    exact ⟨by rw [HE.out.1, HE.out.2]; rfl, k1⟩
  by_cases h2 : 5 < n
  · have HE := Lib.hid (oft_out (.inr h2))
    have hy : decide ((5 : Int) < n) = true := decide_eq_true h2
    have h1' : 1 ≤ n := by omega
    clear h1
    go_enter Tryz.func56, Tryz.ntmps56
    go_wp2_with fail
    refine (basesR_c _).mono ?_
    rintro e w1 ⟨v, rfl, ⟨g, c, rfl, hg, ht⟩, k1⟩
    rw [len_bs]
    go_wp2_with fail
    go_ret2
    exact ⟨by rw [HE.out.1, HE.out.2]; rfl, k1⟩
  have hn : n = 1 ∨ n = 2 ∨ n = 3 ∨ n = 4 ∨ n = 5 := by omega
  clear h1 h2
  rcases hn with rfl | rfl | rfl | rfl | rfl
  all_goals
    go_enter Tryz.func56, Tryz.ntmps56
    go_wp2_with fail
    refine (basesR_c _).mono ?_
    rintro e w1 ⟨v, rfl, ⟨g, c, rfl, hg, ht⟩, k1⟩
    have c0 := ht.cell 0 (by rw [len_bs]; omega)
    have c1 := ht.cell 1 (by rw [len_bs]; omega)
    have c2 := ht.cell 2 (by rw [len_bs]; omega)
    have c3 := ht.cell 3 (by rw [len_bs]; omega)
    have c4 := ht.cell 4 (by rw [len_bs]; omega)
    clear ht
    rw [len_bs]
    go_wp2_with fail
    go_ret2
    exact ⟨rfl, k1⟩

end Go.Proofs.YtcaailiijmjdlaaGreatDoor
