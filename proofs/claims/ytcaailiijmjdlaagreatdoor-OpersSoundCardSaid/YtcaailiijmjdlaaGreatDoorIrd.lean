/- Contracts of the document's Text, and of the helpers of Read in ints: digits or not, the number that they wrap around to, what stands behind a sign. What was in the world stays as it was. -/
import Derived.Test.YtcaailiijmjdlaaGreatDoorIds
import Derived.Test.YtcaailiijmjdlaaGreatDoorDec
set_option linter.unusedSimpArgs false
set_option linter.unusedVariables false
set_option maxRecDepth 100000
namespace Go.Proofs.YtcaailiijmjdlaaGreatDoor
open Go.ChangeShapes Go.WideShapes Go.ChangeAt Go.RowKit

theorem iapp_bytes (l m : List UInt8) : (⟨l.toArray⟩ : ByteArray) ++ ⟨m.toArray⟩ = ⟨(l ++ m).toArray⟩ := by
  apply ByteArray.ext
  simp

theorem iconv_one (b : UInt8) (w : World) : (convert 95 9 (.slice (some ⟨w.heap.size, 0, none⟩) 1 1)).run Tryz.prog (w.alloc (.cells #[.int .u8 (b.toNat : Int)] 5)) = .ok (.string ⟨#[b]⟩) (w.alloc (.cells #[.int .u8 (b.toNat : Int)] 5)) :=
  run_convert_bytes_back (P := Tryz.prog) (w.alloc (.cells #[.int .u8 (b.toNat : Int)] 5)) 95 9 5 ⟨w.heap.size, 0, none⟩ 1 [b] (by kernel_rfl) (by kernel_rfl) (by kernel_rfl) (fun j hj => by
    have : j = 0 := by simpa using hj
    subst this
    rw [add_plain, World.cell?_alloc_new]; rfl)

theorem kept_alloc (w : World) (o : Obj) : Kept w (w.alloc o) := Kept.of_below ((Below.refl _ w).alloc (Nat.le_refl _) o)

theorem digS_one (n : Nat) (h : n < 10) (w : World) : Calls Tryz.prog 110 #[.int .u64 n] w fun e w' => e = .returned (.string ⟨(Dec.digs n).toArray⟩) ∧ Kept w w' := by
  have hc := iconv_one (Dec.dgt n) w
  rw [Dec.dgt_toNat h, show ((48 + n : Nat) : Int) = 48 + (n : Int) from Int.natCast_add 48 n] at hc
  have HD := Lib.hid (Dec.digs_lt h)
  have hn : (n : Int) < 10 := by omega
  clear h
  go_enter Tryz.func110, Tryz.ntmps110
  go_wp2_with fail
  go_ret
  exact ⟨by rw [HD.out]; rfl, kept_alloc _ _⟩

theorem digS_c (k : Nat) : ∀ n : Nat, n ≤ k → n ≤ 9223372036854775808 → ∀ w : World, Calls Tryz.prog 110 #[.int .u64 n] w fun e w' => e = .returned (.string ⟨(Dec.digs n).toArray⟩) ∧ Kept w w' := by
  induction k with
  | zero => intro n hn _ w; exact digS_one n (by omega) w
  | succ k ih =>
    intro n hn hb w
    by_cases h : n < 10
    · exact digS_one n h w
    · have h1 := fun w => ih (n / 10) (by omega) (by omega) w
      have h2 := fun w => digS_one (n % 10) (by omega) w
      rw [show ((n / 10 : Nat) : Int) = (n : Int) / 10 from by omega] at h1
      rw [show ((n % 10 : Nat) : Int) = (n : Int) % 10 from by omega, Dec.digs_lt (by omega)] at h2
      have H1 := Lib.hid h1
      have H2 := Lib.hid h2
      have HD := Lib.hid (Dec.digs_ge (m := n) (by omega))
      have hn : 10 ≤ (n : Int) := by omega
      have hn2 : (n : Int) ≤ 9223372036854775808 := by omega
      have hl1 : (Dec.digs (n / 10)).length ≤ 20 := Dec.digs_le20 (by omega)
      have hl2 : ([Dec.dgt (n % 10)] : List UInt8).length = 1 := rfl
      clear h1 h2 h ih hb
      go_enter Tryz.func110, Tryz.ntmps110
      go_wp2_with fail
      refine (H1.out _).mono ?_
      rintro e w1 ⟨rfl, k1⟩
      go_wp2_with fail
      refine (H2.out _).mono ?_
      rintro e w2 ⟨rfl, k2⟩
      go_wp2_with fail
      go_ret
      exact ⟨by rw [HD.out, ← iapp_bytes]; rfl, k1.trans k2⟩

theorem itextS_c (z : Int) (hz1 : -9223372036854775808 ≤ z) (hz2 : z ≤ 9223372036854775807) (w : World) : Calls Tryz.prog 66 #[.int .i64 z] w fun e w' => e = .returned (.string ⟨(Dec.txt z).toArray⟩) ∧ Kept w w' := by
  have h1 := Lib.hid (fun w => far_c z hz1 hz2 w)
  have h2 := Lib.hid (fun w => digS_c z.natAbs z.natAbs (Nat.le_refl _) (by omega) w)
  have hl1 : (Dec.digs z.natAbs).length ≤ 20 := Dec.digs_le20 (by omega)
  by_cases hz : z < 0
  · have HT := Lib.hid (show Dec.txt z = [45] ++ Dec.digs z.natAbs by unfold Dec.txt; rw [if_pos hz]; rfl)
    go_enter Tryz.func66, Tryz.ntmps66
    go_wp2_with fail
    refine (h1.out _).mono ?_
    rintro e w1 ⟨rfl, rfl⟩
    go_wp2_with fail
    refine (h2.out _).mono ?_
    rintro e w2 ⟨rfl, k2⟩
    go_wp2_with fail
    go_ret
    exact ⟨by rw [HT.out, ← iapp_bytes]; rfl, k2⟩
  · have HT := Lib.hid (show Dec.txt z = Dec.digs z.natAbs by unfold Dec.txt; rw [if_neg hz])
    generalize z.natAbs = m at *
    go_enter Tryz.func66, Tryz.ntmps66
    go_wp2_with fail
    refine (h1.out _).mono ?_
    rintro e w1 ⟨rfl, rfl⟩
    go_wp2_with fail
    refine (h2.out _).mono ?_
    rintro e w2 ⟨rfl, k2⟩
    go_wp2_with fail
    go_ret
    exact ⟨by rw [HT.out]; rfl, k2⟩

theorem itake_snoc (s : ByteArray) (k : Nat) (h : k < s.size) : s.data.toList.take (k + 1) = s.data.toList.take k ++ [s[k]] := by
  rw [List.take_succ_eq_append_getElem (by simpa using h)]; rfl

theorem toList_len (s : ByteArray) : s.data.toList.length = s.size := by simp

theorem wrap_nil : wrap64 ((Dec.val [] : Nat) : Int) = 0 := by show wrap64 0 = 0; unfold wrap64; rfl

theorem wrap_step (v c : Nat) (h : 48 ≤ c) : wrap64 (wrap64 (wrap64 (v : Int) * 10) + ((c : Int) - 48)) = wrap64 ((10 * v + (c - 48) : Nat) : Int) := by
  apply w_mod
  have a1 := w_mod' (wrap64 (v : Int) * 10)
  have a2 := w_mod' (v : Int)
  generalize wrap64 (wrap64 (v : Int) * 10) = x at *
  generalize wrap64 (v : Int) = y at *
  omega

end Go.Proofs.YtcaailiijmjdlaaGreatDoor