/- Contracts of Read, in ints and in the document's answers: which number a text is, or why none. What was in the world stays as it was. -/
import Derived.Test.YtlboaghaeiogfaaIrd
import Derived.Test.YtlboaghaeiogfaaItx
set_option linter.unusedSimpArgs false
set_option linter.unusedVariables false
namespace Go.Proofs.Ytlboaghaeiogfaa
open Go.ChangeShapes Go.WideShapes Go.ChangeAt Go.RowKit

/-- What stands behind a minus. -/
def numB (s : ByteArray) : ByteArray := if Dec.neg s.data.toList then s.extract 1 s.size else s

theorem numB_data (s : ByteArray) : (numB s).data.toList = Dec.num s.data.toList := by
  unfold numB Dec.num
  split
  · rw [Lib.extract_data, List.take_of_length_le (by rw [List.length_drop, toList_len]; omega), List.drop_one]
  · rfl

theorem numB_size (s : ByteArray) : (numB s).size ≤ s.size := by
  rw [← toList_len, ← toList_len, numB_data]
  unfold Dec.num
  split
  · rw [List.length_tail]; omega
  · exact Nat.le_refl _

theorem first_is (s : ByteArray) (h : s.size ≠ 0) : ((s.extract 0 1).toList == [45]) = Dec.neg s.data.toList := by
  rw [ByteArray.toList_eq, Lib.extract_data]
  have hl : s.data.toList.length ≠ 0 := by rw [toList_len]; exact h
  cases hd : s.data.toList with
  | nil => rw [hd] at hl; exact absurd rfl hl
  | cons a r =>
    show ([a] == [45]) = (some a == some 45)
    by_cases e : a = 45
    · subst e; rfl
    · rw [Bool.eq_iff_iff]; simp [e]

theorem cut_c (s : ByteArray) (hs : s.size ≤ maxLen) (w : World) : Calls Try.prog 23 #[.string s, .string ⟨#[45]⟩] w fun e w' => e = .returned (.tuple #[.string (numB s), .bool (Dec.neg s.data.toList)]) ∧ w = w' := by
  unfold maxLen at hs
  by_cases h0 : s.size = 0
  · have hn : Dec.neg s.data.toList = false := by
      have : s.data.toList = [] := List.length_eq_zero_iff.1 (by rw [toList_len]; exact h0)
      rw [this]; rfl
    unfold numB
    rw [hn]
    clear hn
    go_enter Try.func23, Try.ntmps23
    go_wp2
    go_ret2
    exact ⟨rfl, rfl⟩
  · have hx := first_is s h0
    have hp : 1 ≤ (s.size : Int) := by omega
    cases hn : Dec.neg s.data.toList
    all_goals
      unfold numB
      rw [hn] at hx ⊢
      clear hn h0
      go_enter Try.func23, Try.ntmps23
      go_wp2
      go_ret2
      exact ⟨rfl, rfl⟩

/-- What digits are of the form. -/
theorem form_eq (l : List UInt8) (hg : (Dec.allD (Dec.num l) && !(Dec.num l).isEmpty) = true) : Dec.form l = !((Dec.num l).head? == some 48 && !(l == [48])) := by
  unfold Dec.form
  rw [hg, Bool.true_and]
  congr 1
  have hne : Dec.num l ≠ [] := by
    intro e; rw [e] at hg; simp at hg
  by_cases h48 : (Dec.num l).head? = some 48
  · have e1 : ((Dec.num l).head? == some 48) = true := by rw [h48]; rfl
    rw [e1, Bool.true_and, Bool.true_and, Bool.eq_iff_iff]
    simp only [decide_eq_true_eq, Bool.not_eq_true', beq_eq_false_iff_ne, ne_eq]
    constructor
    · intro h e; rw [e] at h; simp at h
    · intro h
      cases l with
      | nil => exact absurd rfl hne
      | cons a r =>
        cases r with
        | cons b r => simp
        | nil =>
          exfalso
          by_cases hn : Dec.neg [a] = true
          · apply hne; unfold Dec.num; rw [if_pos hn]; rfl
          · unfold Dec.num at h48; rw [if_neg hn] at h48
            apply h; simpa using h48
  · have : ((Dec.num l).head? == some 48) = false := by simpa using h48
    rw [this]; rfl

theorem head_at (t : ByteArray) (h : 0 < t.size) : (t.data.toList.head? == some 48) = ((t[0].toNat : Int) == 48) := by
  have hl : 0 < t.data.toList.length := by rw [toList_len]; exact h
  have : t.data.toList.head? = some t[0] := by
    rw [List.head?_eq_getElem?, List.getElem?_eq_getElem hl]; rfl
  rw [this, Bool.eq_iff_iff]
  simp only [beq_iff_eq, Option.some.injEq]
  constructor
  · intro e; rw [e]; rfl
  · intro e
    apply UInt8.toNat_inj.1
    have : (48 : UInt8).toNat = 48 := rfl
    omega

theorem w64_eq (n : Int) : Dec.w64 n = wrap64 n := by unfold Dec.w64 wrap64; exact Eq.refl _

theorem neg_twice (v : Int) : wrap64 (-(wrap64 v)) = wrap64 (-v) := by
  apply w_mod
  have := w_mod' v
  generalize wrap64 v = y at *
  omega

theorem data_back (s : ByteArray) : (⟨s.data.toList.toArray⟩ : ByteArray) = s := by
  apply ByteArray.ext; rfl

theorem not_text {l : List UInt8} {s : ByteArray} (h : l ≠ s.data.toList) : ((⟨l.toArray⟩ : ByteArray).toList == s.toList) = false := by
  rw [ByteArray.toList_eq, ByteArray.toList_eq]
  simpa using h

theorem readR_c (s : ByteArray) (hs : s.size ≤ maxLen) (w : World) : Calls Try.prog 14 #[.string s] w fun e w' => e = .returned (.tuple #[.int .i64 (Dec.rdN s.data.toList), .int .i64 (Dec.rdE s.data.toList)]) ∧ Kept w w' := by
  have HC := Lib.hid (fun w => cut_c s hs w)
  have ht := numB_data s
  have hts := Nat.le_trans (numB_size s) hs
  generalize numB s = t at *
  cases hg : (Dec.allD t.data.toList && !t.data.toList.isEmpty)
  · have HA := Lib.hid (fun w => allR_c t hts false hg w)
    have hf : Dec.form s.data.toList = false := by unfold Dec.form; rw [← ht, hg]; rfl
    have e1 : Dec.rdN s.data.toList = 0 := by unfold Dec.rdN; rw [hf]; rfl
    have e2 : Dec.rdE s.data.toList = 5 := by unfold Dec.rdE; rw [hf]; rfl
    rw [e1, e2]
    clear e1 e2 hf hg ht hts hs
    go_enter Try.func14, Try.ntmps14
    go_wp2_with fail
    refine (HC.out _).mono ?_
    rintro e w1 ⟨rfl, rfl⟩
    go_wp2_with fail
    refine (HA.out _).mono ?_
    rintro e w1 ⟨rfl, rfl⟩
    go_wp2_with fail
    go_ret2
    exact ⟨rfl, Kept.refl w⟩
  · have HA := Lib.hid (fun w => allR_c t hts true hg w)
    have hgs := hg
    rw [ht] at hgs
    have hf := form_eq _ hgs
    simp only [Bool.and_eq_true] at hg
    have hp : 0 < t.size := by
      have h2 := hg.2
      rw [← toList_len]
      cases hd : t.data.toList with
      | nil => rw [hd] at h2; cases h2
      | cons a r => simp
    have HW := Lib.hid (fun w => wrapR_c t hts hg.1 w)
    rw [← ht, head_at t hp, ← ByteArray.toList_eq s] at hf
    rw [ByteArray.toList_eq s] at hf
    by_cases hbad : ((t[0].toNat : Int) == 48) = true ∧ (s.toList == [48]) = false
    · obtain ⟨hz, hq⟩ := hbad
      have hf0 : Dec.form s.data.toList = false := by rw [hf, hz, ← ByteArray.toList_eq s, hq]; rfl
      have e1 : Dec.rdN s.data.toList = 0 := by unfold Dec.rdN; rw [hf0]; rfl
      have e2 : Dec.rdE s.data.toList = 5 := by unfold Dec.rdE; rw [hf0]; rfl
      rw [e1, e2]
      have hp' : 1 ≤ (t.size : Int) := by omega
      clear e1 e2 hf hf0 hg ht hts hs hgs HW
      go_enter Try.func14, Try.ntmps14
      go_wp2_with fail
      refine (HC.out _).mono ?_
      rintro e w1 ⟨rfl, rfl⟩
      go_wp2_with fail
      refine (HA.out _).mono ?_
      rintro e w1 ⟨rfl, rfl⟩
      go_wp2_with fail
      go_ret2
      exact ⟨rfl, Kept.refl w⟩
    · have hf1 : Dec.form s.data.toList = true := by
        rw [hf, ← ByteArray.toList_eq s]
        cases hz : ((t[0].toNat : Int) == 48)
        · rfl
        · cases hq : (s.toList == [48])
          · exact absurd ⟨hz, hq⟩ hbad
          · rfl
      have hp' : 1 ≤ (t.size : Int) := by omega
      have hbad' : ((t[0].toNat : Int) == 48) = false ∨ ((t[0].toNat : Int) == 48) = true ∧ (s.toList == [48]) = true := by
        cases hz : ((t[0].toNat : Int) == 48)
        · exact Or.inl rfl
        · cases hq : (s.toList == [48])
          · exact absurd ⟨hz, hq⟩ hbad
          · exact Or.inr ⟨rfl, rfl⟩
      clear hbad
      cases hm : Dec.neg s.data.toList
      · rw [ht] at HW
        have hw := Dec.wrap_text hf1 (wrap64 (Dec.val (Dec.num s.data.toList) : Nat)) (w_bd _).1 (w_bd _).2 (by rw [hm, w64_eq, if_neg (by decide)])
        have HX := Lib.hid (fun w => textR_c (wrap64 (Dec.val (Dec.num s.data.toList) : Nat)) (w_bd _).1 (w_bd _).2 w)
        rw [hm] at HC
        generalize wrap64 ((Dec.val (Dec.num s.data.toList) : Nat) : Int) = n at *
        cases ho : Dec.over s.data.toList
        · obtain ⟨h1, h2⟩ := hw.1 ho
          have e2 : Dec.rdE s.data.toList = 0 := by unfold Dec.rdE; rw [hf1, ho]; rfl
          rw [e2, ← h1]
          rw [h2, data_back] at HX
          clear hw h1 h2 e2 hf1 hf hg ht hts hs hgs ho hm
          rcases hbad' with hz | ⟨hz, hq⟩
          all_goals
            go_enter Try.func14, Try.ntmps14
            go_wp2_with fail
            refine (HC.out _).mono ?_
            rintro e w1 ⟨rfl, rfl⟩
            go_wp2_with fail
            refine (HA.out _).mono ?_
            rintro e w1 ⟨rfl, rfl⟩
            go_wp2_with fail
            refine (HW.out _).mono ?_
            rintro e w1 ⟨rfl, rfl⟩
            go_wp2_with fail
            refine (HX.out _).mono ?_
            rintro e w1 ⟨rfl, hk⟩
            go_wp2_with fail
            go_ret2
            exact ⟨rfl, hk⟩
        · have h2 := hw.2 ho
          have e1 : Dec.rdN s.data.toList = 0 := by unfold Dec.rdN; rw [hf1, ho]; rfl
          have e2 : Dec.rdE s.data.toList = 3 := by unfold Dec.rdE; rw [hf1, ho]; rfl
          rw [e1, e2]
          have hne := not_text h2
          generalize (⟨(Dec.txt n).toArray⟩ : ByteArray) = u at *
          clear hw h2 e1 e2 hf1 hf hg ht hts hs hgs ho hm
          rcases hbad' with hz | ⟨hz, hq⟩
          all_goals
            go_enter Try.func14, Try.ntmps14
            go_wp2_with fail
            refine (HC.out _).mono ?_
            rintro e w1 ⟨rfl, rfl⟩
            go_wp2_with fail
            refine (HA.out _).mono ?_
            rintro e w1 ⟨rfl, rfl⟩
            go_wp2_with fail
            refine (HW.out _).mono ?_
            rintro e w1 ⟨rfl, rfl⟩
            go_wp2_with fail
            refine (HX.out _).mono ?_
            rintro e w1 ⟨rfl, hk⟩
            go_wp2_with fail
            go_ret2
            exact ⟨rfl, hk⟩
      · rw [ht] at HW
        have hw := Dec.wrap_text hf1 (wrap64 (-(wrap64 (Dec.val (Dec.num s.data.toList) : Nat)))) (w_bd _).1 (w_bd _).2 (by rw [hm, w64_eq, if_pos (by decide)]; exact neg_twice _)
        have HX := Lib.hid (fun w => textR_c (wrap64 (-(wrap64 (Dec.val (Dec.num s.data.toList) : Nat)))) (w_bd _).1 (w_bd _).2 w)
        rw [hm] at HC
        generalize wrap64 ((Dec.val (Dec.num s.data.toList) : Nat) : Int) = a at *
        cases ho : Dec.over s.data.toList
        · obtain ⟨h1, h2⟩ := hw.1 ho
          have e2 : Dec.rdE s.data.toList = 0 := by unfold Dec.rdE; rw [hf1, ho]; rfl
          rw [e2, ← h1]
          rw [h2, data_back] at HX
          clear hw h1 h2 e2 hf1 hf hg ht hts hs hgs ho hm
          rcases hbad' with hz | ⟨hz, hq⟩
          all_goals
            go_enter Try.func14, Try.ntmps14
            go_wp2_with fail
            refine (HC.out _).mono ?_
            rintro e w1 ⟨rfl, rfl⟩
            go_wp2_with fail
            refine (HA.out _).mono ?_
            rintro e w1 ⟨rfl, rfl⟩
            go_wp2_with fail
            refine (HW.out _).mono ?_
            rintro e w1 ⟨rfl, rfl⟩
            go_wp2_with fail
            refine (HX.out _).mono ?_
            rintro e w1 ⟨rfl, hk⟩
            go_wp2_with fail
            go_ret2
            exact ⟨rfl, hk⟩
        · have h2 := hw.2 ho
          have e1 : Dec.rdN s.data.toList = 0 := by unfold Dec.rdN; rw [hf1, ho]; rfl
          have e2 : Dec.rdE s.data.toList = 3 := by unfold Dec.rdE; rw [hf1, ho]; rfl
          rw [e1, e2]
          have hne := not_text h2
          generalize (⟨(Dec.txt (wrap64 (-a))).toArray⟩ : ByteArray) = u at *
          clear hw h2 e1 e2 hf1 hf hg ht hts hs hgs ho hm
          rcases hbad' with hz | ⟨hz, hq⟩
          all_goals
            go_enter Try.func14, Try.ntmps14
            go_wp2_with fail
            refine (HC.out _).mono ?_
            rintro e w1 ⟨rfl, rfl⟩
            go_wp2_with fail
            refine (HA.out _).mono ?_
            rintro e w1 ⟨rfl, rfl⟩
            go_wp2_with fail
            refine (HW.out _).mono ?_
            rintro e w1 ⟨rfl, rfl⟩
            go_wp2_with fail
            refine (HX.out _).mono ?_
            rintro e w1 ⟨rfl, hk⟩
            go_wp2_with fail
            go_ret2
            exact ⟨rfl, hk⟩
end Go.Proofs.Ytlboaghaeiogfaa
