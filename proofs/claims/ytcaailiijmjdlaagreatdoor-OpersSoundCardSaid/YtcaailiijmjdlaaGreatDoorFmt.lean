/- The contract of strconv.FormatUint at base 16: the hexadecimal digits of the number, without a leading zero. It takes the count of trailing zeros of 16 as a premise. The world has afterwards at most new blocks. -/
import Derived.Test.YtcaailiijmjdlaaGreatDoorRea
import Derived.Test.YtcaailiijmjdlaaGreatDoorHex
import Derived.Lib.ItoaMem
set_option linter.unusedSimpArgs false
set_option linter.unusedVariables false
set_option maxRecDepth 100000
namespace Go.Proofs.YtcaailiijmjdlaaGreatDoor
open Go.ChangeShapes Go.WideShapes Go.ChangeAt Go.RowKit Flo

/-- The last k cells of 65 hold the k low digits. -/
def Tail (u k : Nat) (C : Array Value) : Prop := C.size = 65 ∧ ∀ j (h : j < k), C[65 - k + j]? = some (.int .u8 (((Hex.lowd k u)[j]'(by rw [Hex.lowd_length]; exact h)).toNat : Int))

theorem tail_zero (u : Nat) : Tail u 0 Tryz.zeroCells154 := ⟨by kernel_rfl, fun j h => by omega⟩

theorem tail_more (u k : Nat) (C : Array Value) (hk : k < 65) (h : Tail u k C) : Tail u (k + 1) (C.setIfInBounds (65 - k - 1) (.int .u8 ((Hex.hx (u / 16 ^ k % 16)).toNat : Int))) := by
  obtain ⟨h1, h2⟩ := h
  refine ⟨by rw [Array.size_setIfInBounds]; exact h1, fun j hj => ?_⟩
  rw [Array.getElem?_setIfInBounds]
  cases j with
  | zero => rw [if_pos (by omega), if_pos (by omega)]; rfl
  | succ i =>
    rw [if_neg (by omega)]
    have := h2 i (by omega)
    rw [show 65 - (k + 1) + (i + 1) = 65 - k + i from by omega]
    exact this

theorem more_room (u k : Nat) (hu : u < 18446744073709551616) (h : 16 ≤ u / 16 ^ k) : k < 15 := by
  rcases Nat.lt_or_ge k 15 with a | a
  · exact a
  · have : u / 16 ^ k ≤ u / 16 ^ 15 := Nat.div_le_div_left (Nat.pow_le_pow_right (by decide) a) (Nat.two_pow_pos 60 |> fun _ => by decide)
    have h3 : (16 : Nat) ^ 15 = 1152921504606846976 := by decide
    rw [h3] at this
    omega

theorem and15 (v : Nat) (h : v < 18446744073709551616) : bits BinOp.and IntKind.u64 (v : Int) 15 = ((v % 16 : Nat) : Int) := by
  have := u64_and_nat v 15 h (by decide)
  rw [nat_mask4] at this
  exact this

theorem idx_dig (d : Nat) (h : d < 16) (w : World) : (Instr.index 9 (.string ⟨#[48, 49, 50, 51, 52, 53, 54, 55, 56, 57, 97, 98, 99, 100, 101, 102, 103, 104, 105, 106, 107, 108, 109, 110, 111, 112, 113, 114, 115, 116, 117, 118, 119, 120, 121, 122]⟩) (.int .u64 (d : Int))).run Tryz.prog w = .ok (.int .u8 ((Hex.hx d).toNat : Int)) w := by
  have : d = 0 ∨ d = 1 ∨ d = 2 ∨ d = 3 ∨ d = 4 ∨ d = 5 ∨ d = 6 ∨ d = 7 ∨ d = 8 ∨ d = 9 ∨ d = 10 ∨ d = 11 ∨ d = 12 ∨ d = 13 ∨ d = 14 ∨ d = 15 := by omega
  rcases this with rfl | rfl | rfl | rfl | rfl | rfl | rfl | rfl | rfl | rfl | rfl | rfl | rfl | rfl | rfl | rfl <;> rfl

theorem slice_at (k : Nat) (w W : World) (hk : k ≤ 64) : (Instr.sliceAt 154 (.pointer (some ⟨w.heap.size, 0, none⟩)) (some (.int .i64 (65 - (k : Int) - 1))) none none).run Tryz.prog W = .ok (.slice (some ⟨w.heap.size, 64 - k, none⟩) (k + 1) (k + 1)) W := by
  have ht : Tryz.prog.underlying 154 = some (.array (Tryz.prog.arrayLen 154) (Tryz.prog.elem 154)) := by kernel_rfl
  have hal : Tryz.prog.arrayLen 154 = 65 := by kernel_rfl
  have hsz : ∀ W, (sizeOf (Tryz.prog.elem 154)).run Tryz.prog W = .ok 1 W := fun W => by kernel_rfl
  rw [run_sliceAt_array_l W 154 _ ht .i64 _ (by omega) (by rw [hal]; omega), hsz, hal]
  have e : (65 - (k : Int) - 1).toNat = 64 - k := by omega
  simp only [Result.andThen_ok, slicedAt, e]
  rw [if_neg (by omega), add_plain, Nat.mul_one, Nat.zero_add]
  congr 2 <;> congr 1 <;> omega

theorem conv_at (u k : Nat) (w : World) (C : Array Value) (h : Tail u (k + 1) C) : (convert 95 9 (.slice (some ⟨w.heap.size, 64 - k, none⟩) (k + 1) (k + 1))).run Tryz.prog (w.alloc (.cells C 154)) = .ok (.string ⟨(Hex.lowd (k + 1) u).toArray⟩) (w.alloc (.cells C 154)) := by
  have := run_convert_bytes_back (P := Tryz.prog) (w.alloc (.cells C 154)) 95 9 5 ⟨w.heap.size, 64 - k, none⟩ (k + 1) (Hex.lowd (k + 1) u) (by kernel_rfl) (by kernel_rfl) (by kernel_rfl) (fun j hj => by
    rw [add_plain, World.cell?_alloc_new]
    have := h.2 j (by rw [Hex.lowd_length] at hj; exact hj)
    rw [show 65 - (k + 1) + j = 64 - k + j from by omega] at this
    exact this)
  rw [Hex.lowd_length] at this
  exact this

def FmtTwo (u : Nat) (e : Ending) : Prop := ∃ n, n ≤ 16 ∧ u / 16 ^ n = 0 ∧ e = .returned (.tuple #[.slice none 0 0, .string ⟨(Hex.lowd n u).toArray⟩])
def FmtOne (u : Nat) (e : Ending) : Prop := ∃ n, n ≤ 16 ∧ u / 16 ^ n = 0 ∧ e = .returned (.string ⟨(Hex.lowd n u).toArray⟩)

set_option maxHeartbeats 1600000 in
theorem fmtBits_c (u : Nat) (hu : u < 18446744073709551616) (w : World)
    (hz : ∀ W, (∃ c t, W = w.alloc (.cells c t)) → Calls Tryz.prog 163 #[.int .u64 16] W fun e w' => e = .returned (.int .i64 4) ∧ W = w') :
    Calls Tryz.prog 149 #[.slice none 0 0, .int .u64 u, .int .i64 16, .bool false, .bool false] w fun e w' =>
      FmtTwo u e ∧ Grown w w' := by
  have HZ := Lib.hid hz
  clear hz
  go_enter Tryz.func149, Tryz.ntmps149
  go_wp2_with (first | (go_at_call 162; go_in) | (go_at_call 163; refine (HZ.out _ ⟨_, _, rfl⟩).mono ?_; rintro e w' ⟨rfl, rfl⟩))
  go_loopw [1, 13] (fun x i wr => ∃ (k : Nat) (C : Array Value), k ≤ 15 ∧ i = .int .i64 (65 - (k : Int)) ∧ x = .int .u64 (u / 16 ^ k : Nat) ∧ wr = w.alloc (.cells C 154) ∧ Tail u k C) (fun x _ _ => (intOf x).toNat)
  case atStart => exact ⟨0, _, by omega, rfl, by simp, rfl, tail_zero u⟩
  case round =>
    obtain ⟨k, C, hk, rfl, rfl, hw0, hT⟩ := hrel
    subst hw0
    have HT := Lib.hid hT
    clear hT
    have hq : u / 16 ^ k < 18446744073709551616 := Nat.lt_of_le_of_lt (Nat.div_le_self _ _) hu
    generalize hv : u / 16 ^ k = v at *
    by_cases hge : 16 ≤ v
    · have hstop : k < 15 := more_room u k hu (by omega)
      have HM := Lib.hid (tail_more u k C (by omega) HT.out)
      rw [hv] at HM
      obtain ⟨d, hd⟩ : ∃ d, v % 16 = d := ⟨_, rfl⟩
      have hd16 : d < 16 := by omega
      have hb := and15 v hq
      rw [hd] at hb HM
      have hix := idx_dig d hd16
      obtain ⟨old, hold⟩ : ∃ old, C[65 - k - 1]? = some old := ⟨_, Array.getElem?_eq_getElem (by have := HT.out.1; omega)⟩
      have hdiv : u / 16 ^ (k + 1) = v / 16 := by rw [Nat.pow_succ, ← Nat.div_div_eq_div_mul, hv]
      have HD := Lib.hid hdiv
      clear hd hdiv hq
      go_wp2
      go_roundw
      case rel =>
        refine ⟨k + 1, _, by omega, by go_num, ?_, rfl, HM.out⟩
        rw [HD.out]; rfl
      case measure => simp [intOf]; omega
    · have HM := Lib.hid (tail_more u k C (by omega) HT.out)
      rw [hv] at HM
      have hv16 : v < 16 := by omega
      rw [Nat.mod_eq_of_lt hv16] at HM
      have hix := idx_dig v hv16
      obtain ⟨old, hold⟩ : ∃ old, C[65 - k - 1]? = some old := ⟨_, Array.getElem?_eq_getElem (by have := HT.out.1; omega)⟩
      have hk64 : k ≤ 64 := by omega
      have hsl := fun W => slice_at k w W hk64
      have hcv := conv_at u k w _ HM.out
      have hlast : u / 16 ^ (k + 1) = 0 := by rw [Nat.pow_succ, ← Nat.div_div_eq_div_mul, hv]; omega
      have HL := Lib.hid hlast
      clear hlast hq
      go_wp2
      go_ret2
      exact ⟨⟨k + 1, by omega, HL.out, rfl⟩, (Grown.refl w).alloc _ _⟩
theorem fmtIn_c (u : Nat) (hu : u < 18446744073709551616) (w : World)
    (hz : ∀ W, (∃ c t, W = w.alloc (.cells c t)) → Calls Tryz.prog 163 #[.int .u64 16] W fun e w' => e = .returned (.int .i64 4) ∧ W = w') :
    Calls Tryz.prog 122 #[.int .u64 u, .int .i64 16] w fun e w' => FmtOne u e ∧ Grown w w' := by
  have HB := Lib.hid (fmtBits_c u hu w hz)
  clear hz
  go_enter Tryz.func122, Tryz.ntmps122
  go_wp2_with fail
  refine HB.out.mono ?_
  rintro e w1 ⟨⟨n, h1, h2, rfl⟩, hg⟩
  have H2 := Lib.hid h2
  clear h2
  go_wp2_with fail
  go_ret
  exact ⟨⟨n, h1, H2.out, rfl⟩, hg⟩

theorem fmt_c (u : Nat) (hu : u < 18446744073709551616) (w : World)
    (hz : ∀ W, (∃ c t, W = w.alloc (.cells c t)) → Calls Tryz.prog 163 #[.int .u64 16] W fun e w' => e = .returned (.int .i64 4) ∧ W = w') :
    Calls Tryz.prog 75 #[.int .u64 u, .int .i64 16] w fun e w' => FmtOne u e ∧ Grown w w' := by
  have HB := Lib.hid (fmtIn_c u hu w hz)
  clear hz
  go_enter Tryz.func75, Tryz.ntmps75
  go_wp2_with fail
  refine HB.out.mono ?_
  rintro e w1 ⟨⟨n, h1, h2, rfl⟩, hg⟩
  have H2 := Lib.hid h2
  clear h2
  go_wp2_with fail
  go_ret
  exact ⟨⟨n, h1, H2.out, rfl⟩, hg⟩

end Go.Proofs.YtcaailiijmjdlaaGreatDoor
