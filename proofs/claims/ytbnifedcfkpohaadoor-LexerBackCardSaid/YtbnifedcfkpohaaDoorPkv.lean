/- Pick's value. -/
import Derived.Test.YtbnifedcfkpohaaDoorBlk
set_option linter.unusedSimpArgs false
set_option linter.unusedVariables false
namespace Go.Proofs.YtbnifedcfkpohaaDoor
open Go.ChangeShapes Go.WideShapes Go.ChangeAt Go.RowKit

def pickN (x : Int) (n : Nat) : Nat := (if x.tmod n < 0 then x.tmod n + n else x.tmod n).toNat

theorem tmod_bounds (x : Int) {n : Nat} (h0 : 0 < n) : -(n : Int) < x.tmod n ∧ x.tmod n < (n : Int) := by
  rcases Int.natAbs_eq x with h | h
  · rw [h, show ((x.natAbs : Int)).tmod (n : Int) = ((x.natAbs % n : Nat) : Int) from (Int.ofNat_tmod _ _).symm]
    have := Nat.mod_lt x.natAbs h0; omega
  · rw [h, Int.neg_tmod, show ((x.natAbs : Int)).tmod (n : Int) = ((x.natAbs % n : Nat) : Int) from (Int.ofNat_tmod _ _).symm]
    have := Nat.mod_lt x.natAbs h0; omega

theorem pickN_lt (x : Int) {n : Nat} (h0 : 0 < n) : pickN x n < n := by
  obtain ⟨h1, h2⟩ := tmod_bounds x h0
  unfold pickN
  split <;> omega

theorem pick_v (x : Int) (n : Nat) (w : World) (h0 : 0 < n) (hn : n ≤ 1000000) (h1 : -9223372036854775808 ≤ x) (h2 : x ≤ 9223372036854775807) :
    Calls Tryd.prog 18 #[.int .i64 x, .int .i64 n] w fun e w' => e = .returned (.int .i64 (pickN x n : Int)) ∧ w' = w := by
  have hnI : ¬ (n : Int) ≤ 0 := by omega
  have hne : ¬ (n : Int) = 0 := by omega
  obtain ⟨hm1, hm2⟩ := tmod_bounds x h0
  have HP := Lib.hid (show (pickN x n : Int) = if x.tmod n < 0 then x.tmod n + n else x.tmod n by unfold pickN; split <;> omega)
  generalize pickN x n = pn at HP ⊢
  generalize hr : x.tmod n = r at hm1 hm2 HP
  by_cases hneg : r < 0
  · have HQ := Lib.hid (show (pn : Int) = r + n by rw [HP.out, if_pos hneg])
    go_enter Tryd.func18, Tryd.ntmps18
    go_wp2_with fail
    go_ret
    exact ⟨by rw [HQ.out]; first | rfl | (congr 2; go_num), rfl⟩
  · have HQ := Lib.hid (show (pn : Int) = r by rw [HP.out, if_neg hneg])
    go_enter Tryd.func18, Tryd.ntmps18
    go_wp2_with fail
    go_ret
    exact ⟨by rw [HQ.out]; rfl, rfl⟩

end Go.Proofs.YtbnifedcfkpohaaDoor
