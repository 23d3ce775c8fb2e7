/- Contracts of Read, in reals and in the document's answers: whatever text of a machine's length, the word of its sixteen digits, or ErrForm. The world is as it was. -/
import Derived.Test.YtpoaokkgjgkfcaaDoorRea
import Derived.Test.YtpoaokkgjgkfcaaDoorHex
set_option linter.unusedSimpArgs false
set_option linter.unusedVariables false
namespace Go.Proofs.YtpoaokkgjgkfcaaDoor
open Go.ChangeShapes Go.WideShapes Go.ChangeAt Go.RowKit Flo

theorem digit_lo (c : Nat) (w : World) (a : 48 ≤ c) (b : c ≤ 57) : Calls Tryd.prog 30 #[.int .u8 c] w fun e w' => e = .returned (.tuple #[.int .u64 ((c : Int) - 48), .bool true]) ∧ w = w' := by
  go_enter Tryd.func30, Tryd.ntmps30
  go_wp2
  go_ret2
  exact ⟨rfl, rfl⟩

theorem digit_hi (c : Nat) (w : World) (a : 97 ≤ c) (b : c ≤ 102) : Calls Tryd.prog 30 #[.int .u8 c] w fun e w' => e = .returned (.tuple #[.int .u64 ((c : Int) - 97 + 10), .bool true]) ∧ w = w' := by
  have h : ¬ (c : Int) ≤ 57 := by omega
  go_enter Tryd.func30, Tryd.ntmps30
  go_wp2
  go_ret2
  exact ⟨rfl, rfl⟩

theorem digit_no (c : Nat) (hc : c < 256) (w : World) (h1 : ¬ (48 ≤ c ∧ c ≤ 57)) (h2 : ¬ (97 ≤ c ∧ c ≤ 102)) : Calls Tryd.prog 30 #[.int .u8 c] w fun e w' => e = .returned (.tuple #[.int .u64 0, .bool false]) ∧ w = w' := by
  rcases (by omega : c < 48 ∨ (57 < c ∧ c < 97) ∨ 102 < c) with h | ⟨h, k⟩ | h
  all_goals
    clear h1 h2
    go_enter Tryd.func30, Tryd.ntmps30
    go_wp2
    go_ret2
    exact ⟨rfl, rfl⟩

theorem digit_c (c : Nat) (hc : c < 256) (w : World) : Calls Tryd.prog 30 #[.int .u8 c] w fun e w' =>
    e = .returned (match Hex.dg c with | some d => .tuple #[.int .u64 (d : Nat), .bool true] | none => .tuple #[.int .u64 0, .bool false]) ∧ w = w' := by
  by_cases h1 : 48 ≤ c ∧ c ≤ 57
  · rw [show Hex.dg c = some (c - 48) from by unfold Hex.dg; rw [if_pos h1]]
    have := digit_lo c w h1.1 h1.2
    rw [show (c : Int) - 48 = ((c - 48 : Nat) : Int) from by omega] at this
    exact this
  · by_cases h2 : 97 ≤ c ∧ c ≤ 102
    · rw [show Hex.dg c = some (c - 87) from by unfold Hex.dg; rw [if_neg h1, if_pos h2]]
      have := digit_hi c w h2.1 h2.2
      rw [show (c : Int) - 97 + 10 = ((c - 87 : Nat) : Int) from by omega] at this
      exact this
    · rw [show Hex.dg c = none from by unfold Hex.dg; rw [if_neg h1, if_neg h2]]
      exact digit_no c hc w h1 h2

def readOut (l : List UInt8) : Value := match Hex.val l with
  | some a => .tuple #[.int .u64 (cn a : Nat), .int .i64 0]
  | none => .tuple #[.int .u64 0, .int .i64 5]
theorem out_some {l : List UInt8} {a : Nat} (h : Hex.val l = some a) : readOut l = .tuple #[.int .u64 (cn a : Nat), .int .i64 0] := by unfold readOut; rw [h]
theorem out_none {l : List UInt8} (h : Hex.val l = none) : readOut l = .tuple #[.int .u64 0, .int .i64 5] := by unfold readOut; rw [h]

theorem bound15 (s : ByteArray) (k x : Nat) (hs : s.size = 16) (hk : k < 16) (hv : Hex.val (s.data.toList.take k) = some x) : x < 1152921504606846976 := by
  have h1 := Hex.val_lt k _ x (by rw [List.length_take]; have : s.data.toList.length = 16 := by simpa using hs
                                  omega) hv
  have : 16 ^ k ≤ 16 ^ 15 := Nat.pow_le_pow_right (by decide) (by omega)
  have h3 : (16 : Nat) ^ 15 = 1152921504606846976 := by decide
  omega
theorem bound16 (s : ByteArray) (x : Nat) (hs : s.size = 16) (hv : Hex.val (s.data.toList.take 16) = some x) : x < 18446744073709551616 := by
  have h1 := Hex.val_lt 16 _ x (by rw [List.length_take]; have : s.data.toList.length = 16 := by simpa using hs
                                   omega) hv
  have h3 : (16 : Nat) ^ 16 = 18446744073709551616 := by decide
  omega

theorem or_digit (x d : Nat) (hx : x < 1152921504606846976) (hd : d < 16) : bits BinOp.or IntKind.u64 ((x : Int) * 16) (d : Int) = ((16 * x + d : Nat) : Int) := by
  have := u64_or_nat (16 * x) d (by omega) (by omega)
  rw [nat_join 4 (16 * x) d (by omega) (by omega)] at this
  rw [← this]; congr 1; omega

theorem readR_16 (s : ByteArray) (hs : s.size = 16) (w : World) : Calls Tryd.prog 10 #[.string s] w fun e w' => e = .returned (readOut s.data.toList) ∧ w = w' := by
  go_enter Tryd.func10, Tryd.ntmps10
  go_wp2
  go_loop [4, 13] (fun a i => ∃ k x : Nat, k ≤ 16 ∧ i = .int .i64 k ∧ Hex.val (s.data.toList.take k) = some x ∧ a = .int .u64 x) (fun _ i => 16 - (intOf i).toNat)
  case atStart => exact ⟨0, 0, Nat.zero_le _, rfl, rfl, rfl⟩
  case round =>
    obtain ⟨k, x, hk, rfl, hv, rfl⟩ := hrel
    have HV := Lib.hid hv
    clear hv
    by_cases hlt : k < 16
    · have HB := bound15 s k x hs hlt HV.out
      have hks : k < s.size := by omega
      have HT := Lib.hid (Hex.take_snoc s k hks)
      have H := Lib.hid (fun w => digit_c (s[k]).toNat (by have := UInt8.toNat_lt (s[k]); omega) w)
      cases hd : Hex.dg (s[k]).toNat with
      | none =>
        rw [hd] at H
        have hn : Hex.val s.data.toList = none := by
          refine Hex.val_none_of_take _ (k + 1) ?_
          rw [HT.out, Hex.val_snoc, HV.out]
          unfold Hex.step; rw [hd]
        have HO := Lib.hid (out_none hn)
        clear hn hd
        go_wp2_with fail
        refine (H.out _).mono ?_
        rintro e w' ⟨rfl, rfl⟩
        go_wp2_with fail
        go_ret2
        exact ⟨by rw [HO.out]; rfl, rfl⟩
      | some d =>
        rw [hd] at H
        have hd16 := Hex.dg_lt hd
        have hn : Hex.val (s.data.toList.take (k + 1)) = some (16 * x + d) := by
          rw [HT.out, Hex.val_snoc, HV.out]
          unfold Hex.step; rw [hd]
        have HN := Lib.hid hn
        clear hn hd
        have HQ := Lib.hid (or_digit x d HB hd16)
        go_wp2_with fail
        refine (H.out _).mono ?_
        rintro e w' ⟨rfl, rfl⟩
        go_wp2_with fail
        go_round
        case rel =>
          refine ⟨k + 1, 16 * x + d, by omega, by go_num, HN.out, ?_⟩
          rw [← HQ.out]
        case measure => simp [intOf]; omega
    · obtain rfl : k = 16 := by omega
      have hx := bound16 s x hs HV.out
      have hall : s.data.toList.take 16 = s.data.toList := List.take_of_length_le (by have : s.data.toList.length = 16 := by simpa using hs
                                                                                      omega)
      have hv := HV.out
      rw [hall] at hv
      have HO := Lib.hid (out_some hv)
      clear hv hall HV hlt hk
      have HC := Lib.hid (fun w => canR_c x hx w)
      clear hx
      go_wp2_with fail
      refine (HC.out _).mono ?_
      rintro e w' ⟨rfl, rfl⟩
      go_wp2_with fail
      go_ret2
      exact ⟨by rw [HO.out]; rfl, rfl⟩

theorem readR_no (s : ByteArray) (hs : ¬ s.size = 16) (hm : s.size ≤ maxLen) (w : World) : Calls Tryd.prog 10 #[.string s] w fun e w' => e = .returned (.tuple #[.int .u64 0, .int .i64 5]) ∧ w = w' := by
  unfold maxLen at hm
  have ht : ((s.size : Int) != 16) = true := by simp; omega
  go_enter Tryd.func10, Tryd.ntmps10
  go_wp2
  go_ret2
  exact ⟨rfl, rfl⟩

theorem readS_16 (s : ByteArray) (hs : s.size = 16) (w : World) : Calls Tryd.prog 11 #[.string s] w fun e w' => e = .returned (readOut s.data.toList) ∧ w = w' := by
  go_enter Tryd.func11, Tryd.ntmps11
  go_wp2
  go_loop [4, 5] (fun a i => ∃ k x : Nat, k ≤ 16 ∧ i = .int .i64 k ∧ Hex.val (s.data.toList.take k) = some x ∧ a = .int .u64 x) (fun _ i => 16 - (intOf i).toNat)
  case atStart => exact ⟨0, 0, Nat.zero_le _, rfl, rfl, rfl⟩
  case round =>
    obtain ⟨k, x, hk, rfl, hv, rfl⟩ := hrel
    have HV := Lib.hid hv
    clear hv
    by_cases hlt : k < 16
    · have HB := bound15 s k x hs hlt HV.out
      have hks : k < s.size := by omega
      have HT := Lib.hid (Hex.take_snoc s k hks)
      have h256 : (s[k]).toNat < 256 := UInt8.toNat_lt (s[k])
      by_cases c1 : 48 ≤ (s[k]).toNat ∧ (s[k]).toNat ≤ 57
      · have hn : Hex.val (s.data.toList.take (k + 1)) = some (16 * x + ((s[k]).toNat - 48)) := by
          rw [HT.out, Hex.val_snoc, HV.out]
          unfold Hex.step Hex.dg; rw [if_pos c1]
        have HN := Lib.hid hn
        clear hn
        obtain ⟨a1, a2⟩ := c1
        go_wp2
        go_round
        case rel => exact ⟨k + 1, _, by omega, by go_num, HN.out, by go_num⟩
        case measure => simp [intOf]; omega
      · by_cases c2 : 97 ≤ (s[k]).toNat ∧ (s[k]).toNat ≤ 102
        · have hn : Hex.val (s.data.toList.take (k + 1)) = some (16 * x + ((s[k]).toNat - 87)) := by
            rw [HT.out, Hex.val_snoc, HV.out]
            unfold Hex.step Hex.dg; rw [if_neg c1, if_pos c2]
          have HN := Lib.hid hn
          clear hn c1
          obtain ⟨a1, a2⟩ := c2
          have a3 : ¬ ((s[k]).toNat : Int) ≤ 57 := by omega
          go_wp2
          go_round
          case rel => exact ⟨k + 1, _, by omega, by go_num, HN.out, by go_num⟩
          case measure => simp [intOf]; omega
        · have hn : Hex.val s.data.toList = none := by
            refine Hex.val_none_of_take _ (k + 1) ?_
            rw [HT.out, Hex.val_snoc, HV.out]
            unfold Hex.step Hex.dg; rw [if_neg c1, if_neg c2]
          have HO := Lib.hid (out_none hn)
          clear hn
          rcases (by omega : (s[k]).toNat < 48 ∨ (57 < (s[k]).toNat ∧ (s[k]).toNat < 97) ∨ 102 < (s[k]).toNat) with h | ⟨h, h'⟩ | h
          all_goals
            clear c1 c2
            go_wp2
            go_ret2
            exact ⟨by rw [HO.out]; rfl, rfl⟩
    · obtain rfl : k = 16 := by omega
      have hx := bound16 s x hs HV.out
      have hall : s.data.toList.take 16 = s.data.toList := List.take_of_length_le (by have : s.data.toList.length = 16 := by simpa using hs
                                                                                      omega)
      have hv := HV.out
      rw [hall] at hv
      have HO := Lib.hid (out_some hv)
      clear hv hall HV hlt hk
      have HC := Lib.hid (fun w => canS_c x hx w)
      clear hx
      go_wp2_with fail
      refine (HC.out _).mono ?_
      rintro e w' ⟨rfl, rfl⟩
      go_wp2_with fail
      go_ret2
      exact ⟨by rw [HO.out]; rfl, rfl⟩

theorem readS_no (s : ByteArray) (hs : ¬ s.size = 16) (hm : s.size ≤ maxLen) (w : World) : Calls Tryd.prog 11 #[.string s] w fun e w' => e = .returned (.tuple #[.int .u64 0, .int .i64 5]) ∧ w = w' := by
  unfold maxLen at hm
  have ht : ((s.size : Int) != 16) = true := by simp; omega
  go_enter Tryd.func11, Tryd.ntmps11
  go_wp2
  go_ret2
  exact ⟨rfl, rfl⟩

theorem reads_yes (s : ByteArray) (a : Nat) (hs : s.size = 16) (hv : Hex.val s.data.toList = some a) (w : World) : Calls Tryd.prog 22 #[.string s, .int .u64 (cn a : Nat), .int .i64 0] w fun e w' => e = .returned (.bool true) ∧ w = w' := by
  have H := Lib.hid (fun w => readR_16 s hs w)
  rw [out_some hv] at H
  clear hs hv
  go_enter Tryd.func22, Tryd.ntmps22
  go_wp2_with (go_at_call 10; refine (H.out _).mono ?_; rintro e w' ⟨rfl, rfl⟩)
  go_ret
  exact ⟨rfl, rfl⟩

theorem reads_bad (s : ByteArray) (hs : s.size = 16) (hv : Hex.val s.data.toList = none) (w : World) : Calls Tryd.prog 22 #[.string s, .int .u64 0, .int .i64 5] w fun e w' => e = .returned (.bool true) ∧ w = w' := by
  have H := Lib.hid (fun w => readR_16 s hs w)
  rw [out_none hv] at H
  clear hs hv
  go_enter Tryd.func22, Tryd.ntmps22
  go_wp2_with (go_at_call 10; refine (H.out _).mono ?_; rintro e w' ⟨rfl, rfl⟩)
  go_ret
  exact ⟨rfl, rfl⟩

theorem reads_len (s : ByteArray) (hs : ¬ s.size = 16) (hm : s.size ≤ maxLen) (w : World) : Calls Tryd.prog 22 #[.string s, .int .u64 0, .int .i64 5] w fun e w' => e = .returned (.bool true) ∧ w = w' := by
  have H := Lib.hid (fun w => readR_no s hs hm w)
  clear hs hm
  go_enter Tryd.func22, Tryd.ntmps22
  go_wp2_with (go_at_call 10; refine (H.out _).mono ?_; rintro e w' ⟨rfl, rfl⟩)
  go_ret
  exact ⟨rfl, rfl⟩

end Go.Proofs.YtpoaokkgjgkfcaaDoor
