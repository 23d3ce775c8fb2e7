/- ParserMore: a tree that is longer, or deeper, than may be. -/
import Derived.Test.YtfkmnpgpfmkjaaaGreatDoorPst
set_option linter.unusedSimpArgs false
set_option linter.unusedVariables false
set_option maxRecDepth 100000
namespace Go.Proofs.YtfkmnpgpfmkjaaaGreatDoor
open Go.ChangeShapes Go.WideShapes Go.ChangeAt Go.RowKit Go.Shelf
attribute [local go_sem] Oper.semAt_some

theorem ppick_c (p n : Int) (w : World) (hn : 0 < n) (hm : n ≤ 1000000000) (hp : -9223372036854775808 ≤ p ∧ p ≤ 9223372036854775807) :
    Calls Tryz.prog 21 #[.int .i64 p, .int .i64 n] w fun e w' => e = .returned (.int .i64 (p % n)) ∧ w' = w := by
  have ht := Int.tmod_add_mul_tdiv p n
  have h1 : n ≠ 0 := by omega
  obtain ⟨r, hr⟩ : ∃ r, p.tmod n = r := ⟨_, rfl⟩
  have hb : -n < r ∧ r < n := by
    rw [← hr]
    exact ⟨by have := Int.lt_tmod_of_pos p hn; omega, Int.tmod_lt_of_pos p hn⟩
  have hq : (if r < 0 then r + n else r) = p % n := by
    have e : p % n = r % n := by rw [← Int.add_mul_emod_self_left r n (p.tdiv n), ← hr, ht]
    by_cases h0 : r < 0
    · rw [if_pos h0, e, ← Int.add_emod_right r n, Int.emod_eq_of_lt (by omega) (by omega)]
    · rw [if_neg h0, e, Int.emod_eq_of_lt (by omega) (by omega)]
  have HQ := Lib.hid hq
  clear hq ht
  by_cases h0 : r < 0
  · rw [if_pos h0] at HQ
    go_enter Tryz.func21, Tryz.ntmps21
    go_wp2_with fail
    go_ret
    exact ⟨congrArg (fun z => Ending.returned (.int .i64 z)) HQ.out, rfl⟩
  · rw [if_neg h0] at HQ
    go_enter Tryz.func21, Tryz.ntmps21
    go_wp2_with fail
    go_ret
    exact ⟨congrArg (fun z => Ending.returned (.int .i64 z)) HQ.out, rfl⟩

/-- A text, and another one behind it, so many times. -/
def repB (p s : ByteArray) : Nat → ByteArray
  | 0 => p
  | k + 1 => repB p s k ++ s
theorem repB_list (p s : ByteArray) : ∀ k, (repB p s k).data.toList = p.data.toList ++ (List.replicate k s.data.toList).flatten
  | 0 => by simp [repB]
  | k + 1 => by
    rw [repB, ByteArray.data_append, Array.toList_append, repB_list p s k, List.replicate_succ', List.flatten_concat, List.append_assoc]
theorem repB_size (p s : ByteArray) (k : Nat) : (repB p s k).size = p.size + k * s.size := by
  induction k with
  | zero => simp [repB]
  | succ k ih => rw [repB, ByteArray.size_append, ih, Nat.add_mul]; omega
def isF (e : Int) : PR → Bool
  | .fault x a => x == e && a == 0
  | .tree _ => false
theorem isF_eq {e : Int} {R : PR} (h : isF e R = true) : R = .fault e 0 := by
  cases R with
  | tree x => cases h
  | fault x a => simp [isF] at h; rw [h.1, h.2]
abbrev mcA : ByteArray := ⟨#[99, 108, 97, 115, 115, 32, 67, 123, 125]⟩
abbrev mcB : ByteArray := ⟨#[109, 97, 105, 110, 123, 125]⟩
abbrev mcC : ByteArray := ⟨#[109, 97, 105, 110, 123]⟩
abbrev mcD : ByteArray := ⟨#[45]⟩
abbrev mcE : ByteArray := ⟨#[49, 125]⟩
theorem more_a : ∀ i, i < 20 → isF 12 (parseP ((([] : List UInt8) ++ (List.replicate (41 + i) mcA.data.toList).flatten) ++ mcB.data.toList)) = true := by decide +kernel
theorem more_b : ∀ i, i < 60 → isF 11 (parseP ((mcC.data.toList ++ (List.replicate (60 + i) mcD.data.toList).flatten) ++ mcE.data.toList)) = true := by decide +kernel
theorem more_a' (i : Nat) (h : i < 20) : parseP (repB ⟨#[]⟩ mcA (41 + i) ++ mcB).data.toList = .fault 12 0 := by
  rw [ByteArray.data_append, Array.toList_append, repB_list]
  exact isF_eq (more_a i h)
theorem more_b' (i : Nat) (h : i < 60) : parseP (repB mcC mcD (60 + i) ++ mcE).data.toList = .fault 11 0 := by
  rw [ByteArray.data_append, Array.toList_append, repB_list]
  exact isF_eq (more_b i h)
end Go.Proofs.YtfkmnpgpfmkjaaaGreatDoor
