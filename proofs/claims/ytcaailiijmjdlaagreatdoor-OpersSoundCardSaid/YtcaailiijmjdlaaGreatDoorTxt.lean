/- Contracts of Text, in reals and in the document's answers: the sixteen hexadecimal digits of the word with the one NaN in the place of any. They take one cell of math/bits' table as a premise. What was in the world stays as it was. -/
import Derived.Test.YtcaailiijmjdlaaGreatDoorBlk
import Derived.Test.YtcaailiijmjdlaaGreatDoorFmt
import Derived.Test.YtcaailiijmjdlaaGreatDoorShelf
set_option linter.unusedSimpArgs false
set_option linter.unusedVariables false
set_option maxRecDepth 100000
namespace Go.Proofs.YtcaailiijmjdlaaGreatDoor
open Go.ChangeShapes Go.WideShapes Go.ChangeAt Go.RowKit Flo

/-- The cell of the table that tells how many zeros 16 ends in. -/
def Tab (w : World) : Prop := w.cell? ⟨5, 15, none⟩ = some (.int .u8 4)

theorem tz_c (w : World) (h : Tab w) : Calls Tryz.prog 163 #[.int .u64 16] w fun e w' => e = .returned (.int .i64 4) ∧ w = w' := by
  have hc : w.cell? ⟨5, (IntKind.u64.wrap (bits BinOp.and IntKind.u64 16 (IntKind.u64.wrap (-16)) * 285870213051353865) / 288230376151711744).toNat, none⟩ = some (.int .u8 4) := by
    rw [show (IntKind.u64.wrap (bits BinOp.and IntKind.u64 16 (IntKind.u64.wrap (-16)) * 285870213051353865) / 288230376151711744).toNat = 15 from by decide +kernel]
    exact h
  clear h
  go_enter Tryz.func163, Tryz.ntmps163
  go_wp2
  go_ret
  exact ⟨rfl, rfl⟩

theorem idx_16 (v : Nat) (w : World) : (Instr.index 9 (.string ⟨#[48, 49, 50, 51, 52, 53, 54, 55, 56, 57, 97, 98, 99, 100, 101, 102]⟩) (.int .u64 ((v : Int) % 16))).run Tryz.prog w = .ok (.int .u8 ((Hex.hx (v % 16)).toNat : Int)) w := by
  have e : (v : Int) % 16 = ((v % 16 : Nat) : Int) := by omega
  rw [e]
  have h : v % 16 < 16 := Nat.mod_lt _ (by decide)
  generalize v % 16 = d at h
  have : d = 0 ∨ d = 1 ∨ d = 2 ∨ d = 3 ∨ d = 4 ∨ d = 5 ∨ d = 6 ∨ d = 7 ∨ d = 8 ∨ d = 9 ∨ d = 10 ∨ d = 11 ∨ d = 12 ∨ d = 13 ∨ d = 14 ∨ d = 15 := by omega
  rcases this with rfl | rfl | rfl | rfl | rfl | rfl | rfl | rfl | rfl | rfl | rfl | rfl | rfl | rfl | rfl | rfl <;> rfl

theorem conv_one (b : UInt8) (w : World) : (convert 95 9 (.slice (some ⟨w.heap.size, 0, none⟩) 1 1)).run Tryz.prog (w.alloc (.cells #[.int .u8 (b.toNat : Int)] 5)) = .ok (.string ⟨#[b]⟩) (w.alloc (.cells #[.int .u8 (b.toNat : Int)] 5)) :=
  run_convert_bytes_back (P := Tryz.prog) (w.alloc (.cells #[.int .u8 (b.toNat : Int)] 5)) 95 9 5 ⟨w.heap.size, 0, none⟩ 1 [b] (by kernel_rfl) (by kernel_rfl) (by kernel_rfl) (fun j hj => by
    have : j = 0 := by simpa using hj
    subst this
    rw [add_plain, World.cell?_alloc_new]; rfl)

theorem cons_bytes (b : UInt8) (l : List UInt8) : (⟨#[b]⟩ : ByteArray) ++ ⟨l.toArray⟩ = ⟨(b :: l).toArray⟩ := by
  apply ByteArray.ext
  simp

theorem textS_c (a : Nat) (ha : a < 18446744073709551616) (w : World) : Calls Tryz.prog 67 #[.int .u64 a] w fun e w' => e = .returned (.string ⟨(Hex.lowd 16 (cn a)).toArray⟩) ∧ Kept w w' := by
  have HC := Lib.hid (fun w => canS_c a ha w)
  have hc := cn_lt ha
  generalize cn a = x at *
  clear ha
  go_enter Tryz.func67, Tryz.ntmps67
  go_wp2_with fail
  refine (HC.out _).mono ?_
  rintro e w' ⟨rfl, rfl⟩
  go_wp2
  go_loopw [0, 3, 4] (fun v s i wr => ∃ k : Nat, k ≤ 16 ∧ i = .int .i64 k ∧ v = .int .u64 (x / 16 ^ k : Nat) ∧ s = .string ⟨(Hex.lowd k x).toArray⟩ ∧ Kept w wr) (fun _ _ i _ => 16 - (intOf i).toNat)
  case atStart => exact ⟨0, by omega, rfl, by simp, rfl, Kept.refl w⟩
  case round =>
    obtain ⟨k, hk, rfl, rfl, rfl, hK⟩ := hrel
    have hq : x / 16 ^ k < 18446744073709551616 := Nat.lt_of_le_of_lt (Nat.div_le_self _ _) hc
    generalize hv : x / 16 ^ k = v at *
    by_cases hlt : k < 16
    · have hix := idx_16 v
      have hcv := conv_one (Hex.hx (v % 16)) wr
      have hlen := Hex.lowd_length k x
      have HV := Lib.hid hv
      clear hv
      go_wp2
      go_roundw
      case rel =>
        refine ⟨k + 1, by omega, by go_num, ?_, ?_, hK.trans (Kept.of_grown ((Grown.refl _).alloc _ _))⟩
        · rw [Nat.pow_succ, ← Nat.div_div_eq_div_mul, HV.out]; rfl
        · rw [cons_bytes, Hex.lowd, HV.out]
      case measure => simp [intOf]; omega
    · obtain rfl : k = 16 := by omega
      clear hv hq
      go_wp2
      go_ret
      exact ⟨rfl, hK⟩

theorem app_bytes (l m : List UInt8) : (⟨l.toArray⟩ : ByteArray) ++ ⟨m.toArray⟩ = ⟨(l ++ m).toArray⟩ := by
  apply ByteArray.ext
  simp

theorem rep_c (c : Nat) (hc : c ≤ 16) (w : World) : Calls Tryz.prog 76 #[.string ⟨#[48]⟩, .int .i64 (c : Int)] w fun e w' => e = .returned (.string ⟨(List.replicate c (48 : UInt8)).toArray⟩) ∧ Kept w w' := by
  refine (Tryz.strings_Repeat ⟨#[48]⟩ c w (by omega) (by show 1 * c ≤ _; omega)).mono ?_
  rintro e w' ⟨rfl, hb⟩
  refine ⟨?_, Kept.of_below hb⟩
  have : ∀ c, Lib.repeatL [48] c = List.replicate c (48 : UInt8) := by
    intro c
    induction c with
    | zero => rfl
    | succ c ih =>
      show [48] ++ Lib.repeatL [48] c = _
      rw [ih]; rfl
  show Ending.returned (.string ⟨(Lib.repeatL [48] c).toArray⟩) = _
  rw [this]

theorem textR_c (a : Nat) (ha : a < 18446744073709551616) (w : World) (ht : Tab w) : Calls Tryz.prog 42 #[.int .u64 a] w fun e w' => e = .returned (.string ⟨(Hex.lowd 16 (cn a)).toArray⟩) ∧ Kept w w' := by
  have HC := Lib.hid (fun w => canR_c a ha w)
  have hc := cn_lt ha
  generalize cn a = x at *
  clear ha
  have HF := Lib.hid (fmt_c x hc w (by
    rintro W ⟨c, t, rfl⟩
    refine tz_c _ ?_
    exact (Kept.of_grown ((Grown.refl w).alloc c t)).cell ht))
  clear hc ht
  go_enter Tryz.func42, Tryz.ntmps42
  go_wp2_with fail
  refine (HC.out _).mono ?_
  rintro e w' ⟨rfl, rfl⟩
  go_wp2_with fail
  refine HF.out.mono ?_
  rintro e w1 ⟨⟨n, h1, h2, rfl⟩, hg⟩
  have H2 := Lib.hid h2
  have hlen := Hex.lowd_length n x
  clear h2
  have hz : (List.replicate (16 - n) (48 : UInt8)).length = 16 - n := List.length_replicate
  have HR := Lib.hid (rep_c (16 - n) (by omega) w1)
  have HE := Lib.hid (show (⟨(List.replicate (16 - n) (48 : UInt8)).toArray⟩ : ByteArray) ++ ⟨(Hex.lowd n x).toArray⟩ = ⟨(Hex.lowd 16 x).toArray⟩ from by
    rw [app_bytes, ← Hex.lowd_more n (16 - n) x H2.out, show 16 - n + n = 16 from by omega])
  generalize List.replicate (16 - n) (48 : UInt8) = z at *
  rw [show ((16 - n : Nat) : Int) = 16 - (n : Int) from by omega] at HR
  go_wp2_with fail
  refine HR.out.mono ?_
  rintro e w2 ⟨rfl, hk⟩
  go_wp2_with fail
  go_ret
  exact ⟨by rw [HE.out]; rfl, (Kept.of_grown hg).trans hk⟩

end Go.Proofs.YtcaailiijmjdlaaGreatDoor
