/- Contracts of the document's Text, and of the helpers of Read in ints: digits or not, the number that they wrap around to, what stands behind a sign. What was in the world stays as it was. -/
import Derived.Test.YtlboaghaeiogfaaIds
import Derived.Test.YtlboaghaeiogfaaDec
set_option linter.unusedSimpArgs false
set_option linter.unusedVariables false
namespace Go.Proofs.Ytlboaghaeiogfaa
open Go.ChangeShapes Go.WideShapes Go.ChangeAt Go.RowKit

theorem app_bytes (l m : List UInt8) : (⟨l.toArray⟩ : ByteArray) ++ ⟨m.toArray⟩ = ⟨(l ++ m).toArray⟩ := by
  apply ByteArray.ext
  simp

theorem conv_one (b : UInt8) (w : World) : (convert 48 9 (.slice (some ⟨w.heap.size, 0, none⟩) 1 1)).run Try.prog (w.alloc (.cells #[.int .u8 (b.toNat : Int)] 5)) = .ok (.string ⟨#[b]⟩) (w.alloc (.cells #[.int .u8 (b.toNat : Int)] 5)) :=
  run_convert_bytes_back (P := Try.prog) (w.alloc (.cells #[.int .u8 (b.toNat : Int)] 5)) 48 9 5 ⟨w.heap.size, 0, none⟩ 1 [b] (by kernel_rfl) (by kernel_rfl) (by kernel_rfl) (fun j hj => by
    have : j = 0 := by simpa using hj
    subst this
    rw [add_plain, World.cell?_alloc_new]; rfl)

theorem kept_alloc (w : World) (o : Obj) : Kept w (w.alloc o) := Kept.of_below ((Below.refl _ w).alloc (Nat.le_refl _) o)

theorem digS_one (n : Nat) (h : n < 10) (w : World) : Calls Try.prog 28 #[.int .u64 n] w fun e w' => e = .returned (.string ⟨(Dec.digs n).toArray⟩) ∧ Kept w w' := by
  have hc := conv_one (Dec.dgt n) w
  rw [Dec.dgt_toNat h, show ((48 + n : Nat) : Int) = 48 + (n : Int) from Int.natCast_add 48 n] at hc
  have HD := Lib.hid (Dec.digs_lt h)
  have hn : (n : Int) < 10 := by omega
  clear h
  go_enter Try.func28, Try.ntmps28
  go_wp2_with fail
  go_ret
  exact ⟨by rw [HD.out]; rfl, kept_alloc _ _⟩

theorem digS_c (k : Nat) : ∀ n : Nat, n ≤ k → n ≤ 9223372036854775808 → ∀ w : World, Calls Try.prog 28 #[.int .u64 n] w fun e w' => e = .returned (.string ⟨(Dec.digs n).toArray⟩) ∧ Kept w w' := by
  induction k with
  | zero => intro n hn _ w; exact digS_one n (by omega) w
  | succ k ih =>
    intro n hn hb w
    by_cases h : n < 10
    · exact digS_one n h w
    · have h1 := fun w => ih (n / 10) (by omega) (by omega) w
      have h2 := fun w => digS_one (n % 10) (by omega) w
      rw [show ((n / 10 : Nat) : Int) = (n : Int) / 10 from by omega] at h1
      rw [show ((n % 10 : Nat) : Int) = (n : Int) % 10 from by omega, Dec.digs_lt (by omega)] at h2
      have H1 := Lib.hid h1
      have H2 := Lib.hid h2
      have HD := Lib.hid (Dec.digs_ge (m := n) (by omega))
      have hn : 10 ≤ (n : Int) := by omega
      have hn2 : (n : Int) ≤ 9223372036854775808 := by omega
      have hl1 : (Dec.digs (n / 10)).length ≤ 20 := Dec.digs_le20 (by omega)
      have hl2 : ([Dec.dgt (n % 10)] : List UInt8).length = 1 := rfl
      clear h1 h2 h ih hb
      go_enter Try.func28, Try.ntmps28
      go_wp2_with fail
      refine (H1.out _).mono ?_
      rintro e w1 ⟨rfl, k1⟩
      go_wp2_with fail
      refine (H2.out _).mono ?_
      rintro e w2 ⟨rfl, k2⟩
      go_wp2_with fail
      go_ret
      exact ⟨by rw [HD.out, ← app_bytes]; rfl, k1.trans k2⟩

theorem textS_c (z : Int) (hz1 : -9223372036854775808 ≤ z) (hz2 : z ≤ 9223372036854775807) (w : World) : Calls Try.prog 17 #[.int .i64 z] w fun e w' => e = .returned (.string ⟨(Dec.txt z).toArray⟩) ∧ Kept w w' := by
  have h1 := Lib.hid (fun w => far_c z hz1 hz2 w)
  have h2 := Lib.hid (fun w => digS_c z.natAbs z.natAbs (Nat.le_refl _) (by omega) w)
  have hl1 : (Dec.digs z.natAbs).length ≤ 20 := Dec.digs_le20 (by omega)
  by_cases hz : z < 0
  · have HT := Lib.hid (show Dec.txt z = [45] ++ Dec.digs z.natAbs by unfold Dec.txt; rw [if_pos hz]; rfl)
    go_enter Try.func17, Try.ntmps17
    go_wp2_with fail
    refine (h1.out _).mono ?_
    rintro e w1 ⟨rfl, rfl⟩
    go_wp2_with fail
    refine (h2.out _).mono ?_
    rintro e w2 ⟨rfl, k2⟩
    go_wp2_with fail
    go_ret
    exact ⟨by rw [HT.out, ← app_bytes]; rfl, k2⟩
  · have HT := Lib.hid (show Dec.txt z = Dec.digs z.natAbs by unfold Dec.txt; rw [if_neg hz])
    generalize z.natAbs = m at *
    go_enter Try.func17, Try.ntmps17
    go_wp2_with fail
    refine (h1.out _).mono ?_
    rintro e w1 ⟨rfl, rfl⟩
    go_wp2_with fail
    refine (h2.out _).mono ?_
    rintro e w2 ⟨rfl, k2⟩
    go_wp2_with fail
    go_ret
    exact ⟨by rw [HT.out]; rfl, k2⟩

theorem take_snoc (s : ByteArray) (k : Nat) (h : k < s.size) : s.data.toList.take (k + 1) = s.data.toList.take k ++ [s[k]] := by
  rw [List.take_succ_eq_append_getElem (by simpa using h)]; rfl

theorem toList_len (s : ByteArray) : s.data.toList.length = s.size := by simp

/-- Digits, at least one? -/
theorem allR_c (s : ByteArray) (hs : s.size ≤ maxLen) (b : Bool) (hb : (Dec.allD s.data.toList && !s.data.toList.isEmpty) = b) (w : World) : Calls Try.prog 24 #[.string s] w fun e w' => e = .returned (.bool b) ∧ w = w' := by
  unfold maxLen at hs
  have HB := Lib.hid hb
  clear hb
  go_enter Try.func24, Try.ntmps24
  go_wp2
  go_loop [3, 6] (fun _ i => ∃ k : Nat, k ≤ s.size ∧ i = .int .i64 k ∧ Dec.allD (s.data.toList.take k) = true) (fun _ i => s.size - (intOf i).toNat)
  case atStart => exact ⟨0, Nat.zero_le _, rfl, rfl⟩
  case round =>
    obtain ⟨k, hk, rfl, ha⟩ := hrel
    by_cases hlt : k < s.size
    · have HA := Lib.hid ha
      have HS := Lib.hid (take_snoc s k hlt)
      clear ha
      by_cases h1 : (s[k].toNat : Int) < 48
      · have HF := Lib.hid (Dec.allD_false_at s.data.toList k (by rw [toList_len]; exact hlt) (by left; show s[k].toNat < 48; omega))
        go_wp2
        go_ret
        exact ⟨by rw [← HB.out, HF.out]; rfl, rfl⟩
      · by_cases h2 : 57 < (s[k].toNat : Int)
        · have HF := Lib.hid (Dec.allD_false_at s.data.toList k (by rw [toList_len]; exact hlt) (by right; show 57 < s[k].toNat; omega))
          go_wp2
          go_ret
          exact ⟨by rw [← HB.out, HF.out]; rfl, rfl⟩
        · have hI : Dec.isD s[k] = true := Dec.isD_iff.2 ⟨by omega, by omega⟩
          have HI := Lib.hid hI
          clear hI
          go_wp2
          go_round
          case rel => exact ⟨k + 1, by omega, by go_num, by rw [HS.out, Dec.allD_snoc, HA.out, HI.out]; rfl⟩
          case measure => simp [intOf]; omega
    · have hall : Dec.allD s.data.toList = true := by rw [List.take_of_length_le (by rw [toList_len]; omega)] at ha; exact ha
      have HA := Lib.hid hall
      clear ha hall
      go_wp2
      go_ret
      exact ⟨by rw [← HB.out, HA.out, ByteArray.toList_eq s]; rfl, rfl⟩

theorem wrap_nil : wrap64 ((Dec.val [] : Nat) : Int) = 0 := by show wrap64 0 = 0; unfold wrap64; rfl

theorem wrap_step (v c : Nat) (h : 48 ≤ c) : wrap64 (wrap64 (wrap64 (v : Int) * 10) + ((c : Int) - 48)) = wrap64 ((10 * v + (c - 48) : Nat) : Int) := by
  apply w_mod
  have a1 := w_mod' (wrap64 (v : Int) * 10)
  have a2 := w_mod' (v : Int)
  generalize wrap64 (wrap64 (v : Int) * 10) = x at *
  generalize wrap64 (v : Int) = y at *
  omega

/-- The number that digits stand for, wrapped around. -/
theorem wrapR_c (s : ByteArray) (hs : s.size ≤ maxLen) (ha : Dec.allD s.data.toList = true) (w : World) : Calls Try.prog 25 #[.string s] w fun e w' => e = .returned (.int .i64 (wrap64 (Dec.val s.data.toList))) ∧ w = w' := by
  unfold maxLen at hs
  have HA := Lib.hid ha
  clear ha
  go_enter Try.func25, Try.ntmps25
  go_wp2
  go_loop [3, 4, 7] (fun n _ i => ∃ k : Nat, k ≤ s.size ∧ i = .int .i64 k ∧ n = .int .i64 (wrap64 (Dec.val (s.data.toList.take k)))) (fun _ _ i => s.size - (intOf i).toNat)
  case atStart => exact ⟨0, Nat.zero_le _, rfl, by rw [List.take_zero, wrap_nil]⟩
  case round =>
    obtain ⟨k, hk, rfl, rfl⟩ := hrel
    by_cases hlt : k < s.size
    · have hI := Dec.isD_iff.1 (Dec.allD_at s.data.toList k (by rw [toList_len]; exact hlt) HA.out)
      have h1 : 48 ≤ (s[k].toNat : Int) := by have := hI.1; show 48 ≤ ((s.data.toList[k]'(by rw [toList_len]; exact hlt)).toNat : Int); omega
      have h2 : (s[k].toNat : Int) ≤ 57 := by have := hI.2; show ((s.data.toList[k]'(by rw [toList_len]; exact hlt)).toNat : Int) ≤ 57; omega
      have HS := Lib.hid (show Dec.val (s.data.toList.take (k + 1)) = 10 * Dec.val (s.data.toList.take k) + (s[k].toNat - 48) by rw [take_snoc s k hlt, Dec.val_snoc])
      clear hI
      generalize Dec.val (s.data.toList.take k) = v at *
      go_wp2
      go_round
      case rel => exact ⟨k + 1, by omega, by go_num, by rw [HS.out]; exact congrArg (Value.int .i64) (wrap_step v s[k].toNat (by omega))⟩
      case measure => simp [intOf]; omega
    · have HV := Lib.hid (show s.data.toList.take k = s.data.toList from List.take_of_length_le (by rw [toList_len]; omega))
      go_wp2
      go_ret
      exact ⟨by rw [HV.out]; rfl, rfl⟩
end Go.Proofs.Ytlboaghaeiogfaa
