/- The contract of the document's Read: which number a text is, or why none. The world is as it was. -/
import Derived.Test.YtlboaghaeiogfaaIre
set_option linter.unusedSimpArgs false
set_option linter.unusedVariables false
namespace Go.Proofs.Ytlboaghaeiogfaa
open Go.ChangeShapes Go.WideShapes Go.ChangeAt Go.RowKit

theorem neg_first (s : ByteArray) (h : 0 < s.size) : ((s[0].toNat : Int) == 45) = Dec.neg s.data.toList := by
  have hl : 0 < s.data.toList.length := by rw [toList_len]; exact h
  unfold Dec.neg
  have : s.data.toList.head? = some s[0] := by
    rw [List.head?_eq_getElem?, List.getElem?_eq_getElem hl]; rfl
  rw [this, Bool.eq_iff_iff]
  simp only [beq_iff_eq, Option.some.injEq]
  constructor
  · intro e
    apply UInt8.toNat_inj.1
    have : (45 : UInt8).toNat = 45 := rfl
    omega
  · intro e; rw [e]; rfl

/-- Where the document's Read stands at a round's head: k bytes were read; whether it is over, and else the number so far. -/
def At (t : ByteArray) (n ov i : Value) : Prop := ∃ (k v : Nat) (o : Bool), k ≤ t.size ∧ i = .int .i64 k ∧ n = .int .u64 v ∧ ov = .bool o ∧ Dec.allD (t.data.toList.take k) = true ∧
  (o = false → v = Dec.val (t.data.toList.take k) ∧ v ≤ 9223372036854775808) ∧ (o = true → 9223372036854775808 < Dec.val (t.data.toList.take k))

theorem val_take_le (t : ByteArray) (k : Nat) (h : k < t.size) : Dec.val (t.data.toList.take (k + 1)) = 10 * Dec.val (t.data.toList.take k) + (t[k].toNat - 48) := by
  rw [take_snoc t k h, Dec.val_snoc]

theorem u_toNat (z : Int) : IntKind.u64.wrap z = ((IntKind.u64.wrap z).toNat : Int) := by rw [u_mod]; omega

theorem no_form {l : List UInt8} (h : Dec.allD (Dec.num l) = false) : Dec.rdN l = 0 ∧ Dec.rdE l = 5 := by
  have : Dec.form l = false := by unfold Dec.form; rw [h]; rfl
  unfold Dec.rdN Dec.rdE; rw [this]; exact ⟨rfl, rfl⟩

theorem no_form2 {l : List UInt8} (h : Dec.form l = false) : Dec.rdN l = 0 ∧ Dec.rdE l = 5 := by
  unfold Dec.rdN Dec.rdE; rw [h]; exact ⟨rfl, rfl⟩

theorem is_over {l : List UInt8} (h : Dec.form l = true) (ho : Dec.over l = true) : Dec.rdN l = 0 ∧ Dec.rdE l = 3 := by
  unfold Dec.rdN Dec.rdE; rw [h, ho]; exact ⟨rfl, rfl⟩

theorem is_num {l : List UInt8} (h : Dec.form l = true) (ho : Dec.over l = false) : Dec.rdN l = (if Dec.neg l then -(Dec.val (Dec.num l) : Int) else Dec.val (Dec.num l)) ∧ Dec.rdE l = 0 := by
  unfold Dec.rdN Dec.rdE; rw [h, ho]; exact ⟨rfl, rfl⟩

theorem form_of {l : List UInt8} (ha : Dec.allD (Dec.num l) = true) (hne : Dec.num l ≠ []) (h : ¬ ((Dec.num l).head? = some 48 ∧ 1 < l.length)) : Dec.form l = true := by
  unfold Dec.form
  rw [ha]
  have : (Dec.num l).isEmpty = false := by cases hd : Dec.num l with
    | nil => exact absurd hd hne
    | cons a r => rfl
  rw [this]
  by_cases h1 : (Dec.num l).head? = some 48
  · have : ¬ 1 < l.length := fun h2 => h ⟨h1, h2⟩
    rw [decide_eq_false this]; simp
  · have : ((Dec.num l).head? == some 48) = false := by simpa using h1
    rw [this]; rfl

theorem readS_plain (s : ByteArray) (hs : s.size ≤ maxLen) (hp : 0 < s.size) (hm : Dec.neg s.data.toList = false) (htd : s.data.toList = Dec.num s.data.toList) (w : World) : Calls Try.prog 15 #[.string s] w fun e w' => e = .returned (.tuple #[.int .i64 (Dec.rdN s.data.toList), .int .i64 (Dec.rdE s.data.toList)]) ∧ w = w' := by
  unfold maxLen at hs
  have h45 := neg_first s hp
  rw [hm] at h45
  have hp' : 1 ≤ (s.size : Int) := by omega
  have hs0 : ((s.size : Int) == 0) = false := by rw [beq_eq_false_iff_ne]; omega
  have hse : ¬ s = ByteArray.empty := by rintro rfl; exact absurd hp (by decide)
  have h48 := head_at s hp
  rw [htd] at h48
  by_cases hz : ((s[0].toNat : Int) == 48) = true ∧ 1 < s.size
  · obtain ⟨hz1, hz2⟩ := hz
    have hf := no_form2 (l := s.data.toList) (by
      unfold Dec.form
      rw [h48, hz1]
      have : decide (1 < s.data.toList.length) = true := by rw [toList_len]; exact decide_eq_true hz2
      rw [this]; simp)
    rw [hf.1, hf.2]
    have hz2' : 1 < (s.size : Int) := by omega
    clear hf htd hm h48
    go_enter Try.func15, Try.ntmps15
    go_wp2
    go_ret2
    exact ⟨rfl, rfl⟩
  have hzz : ((s[0].toNat : Int) == 48) = false ∨ (((s[0].toNat : Int) == 48) = true ∧ (s.size : Int) ≤ 1) := by
    cases h : ((s[0].toNat : Int) == 48)
    · exact Or.inl rfl
    · exact Or.inr ⟨rfl, by have : ¬ 1 < s.size := fun h2 => hz ⟨h, h2⟩; omega⟩
  have hform : Dec.allD (Dec.num s.data.toList) = true → Dec.form s.data.toList = true := fun ha => form_of ha
    (by rw [← htd]; intro e; have := congrArg List.length e; rw [toList_len, List.length_nil] at this; omega)
    (by rintro ⟨h1, h2⟩; apply hz; rw [← h48]; rw [toList_len] at h2; exact ⟨by rw [h1]; rfl, h2⟩)
  have HF := Lib.hid hform
  have HT := Lib.hid htd
  have HM := Lib.hid hm
  clear hform htd hm h48 hz
  rcases hzz with hz | ⟨hz, hzs⟩
  all_goals
    go_enter Try.func15, Try.ntmps15
    go_wp2
    go_loop [5, 6, 7] (fun n ov i => At s n ov i) (fun _ _ i => s.size - (intOf i).toNat)
    case atStart => exact ⟨0, 0, false, Nat.zero_le _, rfl, rfl, rfl, by rw [List.take_zero]; rfl, fun _ => ⟨by rw [List.take_zero]; rfl, by omega⟩, fun h => by cases h⟩
    case round =>
      obtain ⟨k, v, o, hk, rfl, rfl, rfl, ha, h1, h2⟩ := hrel
      have HA := Lib.hid ha
      have H1 := Lib.hid h1
      have H2 := Lib.hid h2
      clear ha h1 h2
      by_cases hlt : k < s.size
      · have HS := Lib.hid (take_snoc s k hlt)
        have HV := Lib.hid (val_take_le s k hlt)
        by_cases c1 : (s[k].toNat : Int) < 48
        · have hf := no_form (l := s.data.toList) (by rw [← HT.out]; exact Dec.allD_false_at _ k (by rw [toList_len]; exact hlt) (by left; show s[k].toNat < 48; omega))
          have hf' := Lib.hid hf
          clear hf
          go_wp2
          go_ret2
          exact ⟨by rw [hf'.out.1, hf'.out.2]; rfl, rfl⟩
        · by_cases c2 : 57 < (s[k].toNat : Int)
          · have hf := no_form (l := s.data.toList) (by rw [← HT.out]; exact Dec.allD_false_at _ k (by rw [toList_len]; exact hlt) (by right; show 57 < s[k].toNat; omega))
            have hf' := Lib.hid hf
            clear hf
            go_wp2
            go_ret2
            exact ⟨by rw [hf'.out.1, hf'.out.2]; rfl, rfl⟩
          · cases o
            · obtain ⟨rfl, hv⟩ := H1.out rfl
              have hv' : ((Dec.val (s.data.toList.take k) : Nat) : Int) ≤ 9223372036854775808 := by omega
              have HI := Lib.hid (show Dec.allD (s.data.toList.take (k + 1)) = true by rw [HS.out, Dec.allD_snoc, HA.out, Dec.isD_iff.2 ⟨by omega, by omega⟩]; rfl)
              clear hv
              generalize Dec.val (s.data.toList.take k) = v at *
              by_cases hover : 9223372036854775808 < 10 * (v : Int) + ((s[k].toNat : Int) - 48)
              · go_wp2
                go_round
                case rel => exact ⟨k + 1, (IntKind.u64.wrap _).toNat, true, by omega, by go_num, congrArg (Value.int .u64) (u_toNat _), congrArg Value.bool (decide_eq_true (by omega)), HI.out, (fun h => by cases h), (fun _ => by rw [HV.out]; omega)⟩
                case measure => simp [intOf]; omega
              · go_wp2
                go_round
                case rel => exact ⟨k + 1, 10 * v + (s[k].toNat - 48), false, by omega, by go_num, congrArg (Value.int .u64) (by omega), congrArg Value.bool (decide_eq_false (by omega)), HI.out, (fun _ => ⟨HV.out.symm, by omega⟩), (fun h => by cases h)⟩
                case measure => simp [intOf]; omega
            · have hv := H2.out rfl
              have HI := Lib.hid (show Dec.allD (s.data.toList.take (k + 1)) = true by rw [HS.out, Dec.allD_snoc, HA.out, Dec.isD_iff.2 ⟨by omega, by omega⟩]; rfl)
              have HW := Lib.hid (show 9223372036854775808 < Dec.val (s.data.toList.take (k + 1)) by rw [HV.out]; omega)
              clear hv
              go_wp2
              go_round
              case rel => exact ⟨k + 1, (IntKind.u64.wrap _).toNat, true, by omega, by go_num, congrArg (Value.int .u64) (u_toNat _), rfl, HI.out, (fun h => by cases h), (fun _ => HW.out)⟩
              case measure => simp [intOf]; omega
      · have hka : s.data.toList.take k = s.data.toList := List.take_of_length_le (by rw [toList_len]; omega)
        have ha := HA.out
        rw [hka] at ha
        have hff := HF.out (by rw [← HT.out]; exact ha)
        cases o
        · obtain ⟨hv, hvb⟩ := H1.out rfl
          rw [hka] at hv
          by_cases hmax : v = 9223372036854775808
          · have r := Lib.hid (is_over hff (by unfold Dec.over; rw [HM.out, ← HT.out, ← hv, hmax]; rfl))
            have hmx : ((v : Int) == 9223372036854775808) = true := by rw [beq_iff_eq]; omega
            clear hka ha hff hv hmax
            go_wp2
            go_ret2
            exact ⟨by rw [r.out.1, r.out.2]; rfl, rfl⟩
          · have r := Lib.hid (is_num hff (by unfold Dec.over; rw [HM.out, ← HT.out, ← hv]; simp; omega))
            have hvI : (v : Int) ≤ 9223372036854775807 := by omega
            have hmx : ((v : Int) == 9223372036854775808) = false := by rw [beq_eq_false_iff_ne]; omega
            have HV := Lib.hid hv
            clear hka ha hff hv hmax
            go_wp2
            go_ret2
            refine ⟨?_, rfl⟩
            rw [r.out.1, r.out.2, HM.out, ← HT.out, ← HV.out]
            rfl
        · have hv := H2.out rfl
          rw [hka] at hv
          have r := Lib.hid (is_over hff (by unfold Dec.over; rw [← HT.out, decide_eq_true hv]; rfl))
          clear hka ha hff hv
          go_wp2
          go_ret2
          exact ⟨by rw [r.out.1, r.out.2]; rfl, rfl⟩

theorem readS_neg (s t : ByteArray) (hs : s.size ≤ maxLen) (hst : s.extract 1 s.size = t) (hsz : s.size = t.size + 1) (hm : Dec.neg s.data.toList = true) (htd : t.data.toList = Dec.num s.data.toList) (w : World) : Calls Try.prog 15 #[.string s] w fun e w' => e = .returned (.tuple #[.int .i64 (Dec.rdN s.data.toList), .int .i64 (Dec.rdE s.data.toList)]) ∧ w = w' := by
  unfold maxLen at hs
  have hp : 0 < s.size := by omega
  have h45 := neg_first s hp
  rw [hm] at h45
  have hp' : 1 ≤ (s.size : Int) := by omega
  have hs0 : ((s.size : Int) == 0) = false := by rw [beq_eq_false_iff_ne]; omega
  have hlts : (t.size : Int) < (s.size : Int) := by omega
  have hnes : ((t.size : Int) == (s.size : Int)) = false := by rw [beq_eq_false_iff_ne]; omega
  have HSZ := Lib.hid hsz
  clear hsz
  by_cases ht0 : t.size = 0
  · have hf := no_form2 (l := s.data.toList) (by
      unfold Dec.form
      have : (Dec.num s.data.toList).isEmpty = true := by rw [← htd]; rw [List.isEmpty_iff]; exact List.length_eq_zero_iff.1 (by rw [toList_len]; exact ht0)
      rw [this]; simp)
    rw [hf.1, hf.2]
    obtain rfl : t = ByteArray.empty := ByteArray.ext (Array.eq_empty_of_size_eq_zero ht0)
    clear hf htd hm
    go_enter Try.func15, Try.ntmps15
    go_wp2
    go_ret2
    exact ⟨rfl, rfl⟩
  have htp : 0 < t.size := by omega
  have htp' : 1 ≤ (t.size : Int) := by omega
  have ht1 : ((t.size : Int) == 0) = false := by rw [beq_eq_false_iff_ne]; omega
  clear ht0
  have hte : ¬ t = ByteArray.empty := by rintro rfl; exact absurd htp (by decide)
  have h48 := head_at t htp
  rw [htd] at h48
  by_cases hz : ((t[0].toNat : Int) == 48) = true ∧ 1 < s.size
  · obtain ⟨hz1, hz2⟩ := hz
    have hf := no_form2 (l := s.data.toList) (by
      unfold Dec.form
      rw [h48, hz1]
      have : decide (1 < s.data.toList.length) = true := by rw [toList_len]; exact decide_eq_true hz2
      rw [this]; simp)
    rw [hf.1, hf.2]
    have hz2' : 1 < (s.size : Int) := by omega
    clear hf htd hm h48
    go_enter Try.func15, Try.ntmps15
    go_wp2
    go_ret2
    exact ⟨rfl, rfl⟩
  have hzz : ((t[0].toNat : Int) == 48) = false ∨ (((t[0].toNat : Int) == 48) = true ∧ (s.size : Int) ≤ 1) := by
    cases h : ((t[0].toNat : Int) == 48)
    · exact Or.inl rfl
    · exact Or.inr ⟨rfl, by have : ¬ 1 < s.size := fun h2 => hz ⟨h, h2⟩; omega⟩
  have hform : Dec.allD (Dec.num s.data.toList) = true → Dec.form s.data.toList = true := fun ha => form_of ha
    (by rw [← htd]; intro e; have := congrArg List.length e; rw [toList_len, List.length_nil] at this; omega)
    (by rintro ⟨h1, h2⟩; apply hz; rw [← h48]; rw [toList_len] at h2; exact ⟨by rw [h1]; rfl, h2⟩)
  have HF := Lib.hid hform
  have HT := Lib.hid htd
  have HM := Lib.hid hm
  clear hform htd hm h48 hz
  have hz := hzz.resolve_right (by rintro ⟨_, h⟩; omega)
  clear hzz
  all_goals
    go_enter Try.func15, Try.ntmps15
    go_wp2
    go_loop [5, 6, 7] (fun n ov i => At t n ov i) (fun _ _ i => t.size - (intOf i).toNat)
    case atStart => exact ⟨0, 0, false, Nat.zero_le _, rfl, rfl, rfl, by rw [List.take_zero]; rfl, fun _ => ⟨by rw [List.take_zero]; rfl, by omega⟩, fun h => by cases h⟩
    case round =>
      obtain ⟨k, v, o, hk, rfl, rfl, rfl, ha, h1, h2⟩ := hrel
      have HA := Lib.hid ha
      have H1 := Lib.hid h1
      have H2 := Lib.hid h2
      clear ha h1 h2
      by_cases hlt : k < t.size
      · have HS := Lib.hid (take_snoc t k hlt)
        have HV := Lib.hid (val_take_le t k hlt)
        by_cases c1 : (t[k].toNat : Int) < 48
        · have hf := no_form (l := s.data.toList) (by rw [← HT.out]; exact Dec.allD_false_at _ k (by rw [toList_len]; exact hlt) (by left; show t[k].toNat < 48; omega))
          have hf' := Lib.hid hf
          clear hf
          go_wp2
          go_ret2
          exact ⟨by rw [hf'.out.1, hf'.out.2]; rfl, rfl⟩
        · by_cases c2 : 57 < (t[k].toNat : Int)
          · have hf := no_form (l := s.data.toList) (by rw [← HT.out]; exact Dec.allD_false_at _ k (by rw [toList_len]; exact hlt) (by right; show 57 < t[k].toNat; omega))
            have hf' := Lib.hid hf
            clear hf
            go_wp2
            go_ret2
            exact ⟨by rw [hf'.out.1, hf'.out.2]; rfl, rfl⟩
          · cases o
            · obtain ⟨rfl, hv⟩ := H1.out rfl
              have hv' : ((Dec.val (t.data.toList.take k) : Nat) : Int) ≤ 9223372036854775808 := by omega
              have HI := Lib.hid (show Dec.allD (t.data.toList.take (k + 1)) = true by rw [HS.out, Dec.allD_snoc, HA.out, Dec.isD_iff.2 ⟨by omega, by omega⟩]; rfl)
              clear hv
              generalize Dec.val (t.data.toList.take k) = v at *
              by_cases hover : 9223372036854775808 < 10 * (v : Int) + ((t[k].toNat : Int) - 48)
              · go_wp2
                go_round
                case rel => exact ⟨k + 1, (IntKind.u64.wrap _).toNat, true, by omega, by go_num, congrArg (Value.int .u64) (u_toNat _), congrArg Value.bool (decide_eq_true (by omega)), HI.out, (fun h => by cases h), (fun _ => by rw [HV.out]; omega)⟩
                case measure => simp [intOf]; omega
              · go_wp2
                go_round
                case rel => exact ⟨k + 1, 10 * v + (t[k].toNat - 48), false, by omega, by go_num, congrArg (Value.int .u64) (by omega), congrArg Value.bool (decide_eq_false (by omega)), HI.out, (fun _ => ⟨HV.out.symm, by omega⟩), (fun h => by cases h)⟩
                case measure => simp [intOf]; omega
            · have hv := H2.out rfl
              have HI := Lib.hid (show Dec.allD (t.data.toList.take (k + 1)) = true by rw [HS.out, Dec.allD_snoc, HA.out, Dec.isD_iff.2 ⟨by omega, by omega⟩]; rfl)
              have HW := Lib.hid (show 9223372036854775808 < Dec.val (t.data.toList.take (k + 1)) by rw [HV.out]; omega)
              clear hv
              go_wp2
              go_round
              case rel => exact ⟨k + 1, (IntKind.u64.wrap _).toNat, true, by omega, by go_num, congrArg (Value.int .u64) (u_toNat _), rfl, HI.out, (fun h => by cases h), (fun _ => HW.out)⟩
              case measure => simp [intOf]; omega
      · have hka : t.data.toList.take k = t.data.toList := List.take_of_length_le (by rw [toList_len]; omega)
        have ha := HA.out
        rw [hka] at ha
        have hff := HF.out (by rw [← HT.out]; exact ha)
        cases o
        · obtain ⟨hv, hvb⟩ := H1.out rfl
          rw [hka] at hv
          have r := Lib.hid (is_num hff (by unfold Dec.over; rw [HM.out, ← HT.out, ← hv]; simp; omega))
          have hvI : (v : Int) ≤ 9223372036854775808 := by omega
          have HV := Lib.hid hv
          clear hka ha hff hv
          go_wp2
          go_ret2
          refine ⟨?_, rfl⟩
          rw [r.out.1, r.out.2, HM.out, ← HT.out, ← HV.out, if_pos rfl]
          refine ret_2 ?_
          rw [u_w, w_in (by omega) (by omega)]
        · have hv := H2.out rfl
          rw [hka] at hv
          have r := Lib.hid (is_over hff (by unfold Dec.over; rw [← HT.out, decide_eq_true hv]; rfl))
          clear hka ha hff hv
          go_wp2
          go_ret2
          exact ⟨by rw [r.out.1, r.out.2]; rfl, rfl⟩

theorem readS_c (s : ByteArray) (hs : s.size ≤ maxLen) (w : World) : Calls Try.prog 15 #[.string s] w fun e w' => e = .returned (.tuple #[.int .i64 (Dec.rdN s.data.toList), .int .i64 (Dec.rdE s.data.toList)]) ∧ w = w' := by
  by_cases h0 : s.size = 0
  · obtain rfl : s = ByteArray.empty := ByteArray.ext (Array.eq_empty_of_size_eq_zero h0)
    clear hs h0
    go_enter Try.func15, Try.ntmps15
    go_wp2
    go_ret2
    exact ⟨rfl, rfl⟩
  · cases hm : Dec.neg s.data.toList
    · exact readS_plain s hs (by omega) hm (by unfold Dec.num; rw [hm]; rfl) w
    · have hd : (s.extract 1 s.size).data.toList = Dec.num s.data.toList := by
        have := numB_data s
        unfold numB at this
        rw [if_pos hm] at this
        exact this
      refine readS_neg s _ hs rfl ?_ hm hd w
      rw [← toList_len (s.extract 1 s.size), hd]
      unfold Dec.num
      rw [if_pos hm, List.length_tail, toList_len]
      omega
end Go.Proofs.Ytlboaghaeiogfaa
