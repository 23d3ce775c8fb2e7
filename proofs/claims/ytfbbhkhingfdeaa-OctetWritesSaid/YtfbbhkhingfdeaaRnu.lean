/- The contract of octet's number: which number stands at the reader's place, or the panic that tells why none does. -/
import Derived.Test.YtfbbhkhingfdeaaRdr
set_option linter.unusedSimpArgs false
set_option linter.unusedVariables false
namespace Go.Proofs.Ytfbbhkhingfdeaa
open Go.ChangeShapes Go.WideShapes Go.ChangeAt Go.RowKit

abbrev rcells (b : Nat) (s : ByteArray) (p : Nat) (e : Int) (a : Nat) : Array Value := #[.pointer (some ⟨b, 0, none⟩), .string s, .int .i64 p, .int .i64 e, .int .i64 a]
abbrev refusal (e : Int) (a : Nat) : List PanicEntry := [{ v := .iface 73 (.agg #[.int .i64 e, .int .i64 a]), recovered := false }]

/-- How a number is read. -/
def NumPost (b : Nat) (s : ByteArray) (p : Nat) (w : World) (e : Ending) (w' : World) : Prop :=
  ((Oct.scan 0 (s.data.toList.drop p)).1 = 0 ∧ e = .returned (.int .i64 (Oct.scan 0 (s.data.toList.drop p)).2.1) ∧ Only (· = b) w w' ∧ Blk w' b 49 (rcells b s (p + (Oct.scan 0 (s.data.toList.drop p)).2.2) 0 0)) ∨
  ((Oct.scan 0 (s.data.toList.drop p)).1 ≠ 0 ∧ e = .panicked (refusal (Oct.scan 0 (s.data.toList.drop p)).1 p) ∧ Only (· = b) w w' ∧ Blk w' b 49 (rcells b s p 0 0))

theorem w_in {n : Int} (h1 : -9223372036854775808 ≤ n) (h2 : n ≤ 9223372036854775807) : wrap64 n = n := by unfold wrap64; omega
theorem p7 (k : Nat) : (2 : Int) ^ (7 * k) = ((128 ^ k : Nat) : Int) := by
  rw [Int.pow_mul]; norm_cast
theorem pow9 {k : Nat} (h : k ≤ 8) : 128 ^ (k + 1) ≤ 9223372036854775808 := by
  rw [← Oct.p9]; exact Nat.pow_le_pow_right (by omega) (by omega)

/-- The sum, one group more. -/
theorem acc_next {acc k x : Nat} (hk : k ≤ 8) (ha : acc < 128 ^ k) : wrap64 ((acc : Int) + wrap64 ((x : Int) % 128 * 2 ^ (7 * k))) = ((acc + x % 128 * 128 ^ k : Nat) : Int) ∧ acc + x % 128 * 128 ^ k < 128 ^ (k + 1) := by
  have h9 := pow9 hk
  have hm : x % 128 ≤ 127 := by omega
  rw [Nat.pow_succ] at h9 ⊢
  rw [p7]
  generalize 128 ^ k = q at *
  have e : ((x : Int) % 128 * (q : Int)) = ((x % 128 * q : Nat) : Int) := by push_cast; rfl
  rw [e]
  have hle : x % 128 * q ≤ 127 * q := Nat.mul_le_mul_right q hm
  generalize x % 128 * q = y at *
  rw [w_in (n := (y : Int)) (by omega) (by omega), w_in (by omega) (by omega)]
  omega

theorem drop_cons (s : ByteArray) (j : Nat) (h : j < s.size) : s.data.toList.drop j = s[j] :: s.data.toList.drop (j + 1) := by
  rw [List.drop_eq_getElem_cons (by simpa using h)]; rfl

theorem scan_more {x : UInt8} {l : List UInt8} {k : Nat} (hk : k ≤ 8) (hx : 128 ≤ x.toNat) (acc : Nat) : Oct.fin acc k (Oct.scan k (x :: l)) = Oct.fin (acc + x.toNat % 128 * 128 ^ k) (k + 1) (Oct.scan (k + 1) l) := by
  have hlt := x.toNat_lt
  have e : Oct.scan k (x :: l) = if (Oct.scan (k + 1) l).1 = 0 then (0, x.toNat - 128 + 128 * (Oct.scan (k + 1) l).2.1, (Oct.scan (k + 1) l).2.2 + 1) else ((Oct.scan (k + 1) l).1, 0, 0) := by
    rw [Oct.scan, if_neg (by omega), if_pos hx]
  rw [e]
  unfold Oct.fin
  by_cases h : (Oct.scan (k + 1) l).1 = 0
  · rw [if_pos h, if_pos rfl, if_pos h]
    generalize (Oct.scan (k + 1) l).2.1 = v
    generalize (Oct.scan (k + 1) l).2.2 = n
    have e : x.toNat - 128 = x.toNat % 128 := by omega
    rw [Nat.pow_succ]
    dsimp only
    rw [e, Nat.mul_add, Nat.mul_comm (x.toNat % 128), Nat.mul_assoc]
    simp only [Prod.mk.injEq, true_and]
    omega
  · rw [if_neg h, if_neg h, if_neg h]

theorem scan_last {x : UInt8} {l : List UInt8} {k : Nat} (hk : k ≤ 8) (hx : ¬ 128 ≤ x.toNat) (hz : ¬ (x.toNat = 0 ∧ 0 < k)) (acc : Nat) : Oct.fin acc k (Oct.scan k (x :: l)) = (0, acc + x.toNat % 128 * 128 ^ k, k + 1) := by
  have e : Oct.scan k (x :: l) = (0, x.toNat, 1) := by rw [Oct.scan, if_neg (by omega), if_neg hx, if_neg hz]
  rw [e]
  unfold Oct.fin
  rw [if_pos rfl, show x.toNat % 128 = x.toNat by omega, Nat.mul_comm (x.toNat)]

theorem scan_nought {x : UInt8} {l : List UInt8} {k : Nat} (hk : k ≤ 8) (hz : x.toNat = 0 ∧ 0 < k) (acc : Nat) : Oct.fin acc k (Oct.scan k (x :: l)) = (5, 0, 0) := by
  have e : Oct.scan k (x :: l) = (5, 0, 0) := by rw [Oct.scan, if_neg (by omega), if_neg (by omega), if_pos hz]
  rw [e]
  rfl
theorem scan_tenth {x : UInt8} {l : List UInt8} (acc : Nat) : Oct.fin acc 9 (Oct.scan 9 (x :: l)) = (5, 0, 0) := by
  have e : Oct.scan 9 (x :: l) = (5, 0, 0) := by rw [Oct.scan, if_pos rfl]
  rw [e]
  rfl
theorem scan_short (k acc : Nat) : Oct.fin acc k (Oct.scan k []) = (13, 0, 0) := by
  unfold Oct.fin Oct.scan
  rw [if_neg (by decide)]

theorem NumPost.ok {b : Nat} {s : ByteArray} {p v n : Nat} {w w' : World} {e : Ending} {q : Int} (hf : Oct.scan 0 (s.data.toList.drop p) = (0, v, n)) (he : e = .returned (.int .i64 q)) (hq : q = v) (ho : Only (· = b) w w')
    (hb : Blk w' b 49 (rcells b s (p + n) 0 0)) : NumPost b s p w e w' := by
  subst hq
  exact .inl ⟨by rw [hf], by rw [hf]; exact he, ho, by rw [hf]; exact hb⟩
theorem NumPost.bad {b : Nat} {s : ByteArray} {p : Nat} {c : Int} {w w' : World} {e : Ending} (hf : Oct.scan 0 (s.data.toList.drop p) = (c, 0, 0)) (hc : c ≠ 0) (he : e = .panicked (refusal c p)) (ho : Only (· = b) w w')
    (hb : Blk w' b 49 (rcells b s p 0 0)) : NumPost b s p w e w' :=
  .inr ⟨by rw [hf]; exact hc, by rw [hf]; exact he, ho, hb⟩

set_option maxRecDepth 100000 in
set_option maxHeartbeats 1600000 in
theorem number_c (b : Nat) (s : ByteArray) (p : Nat) (w : World) (hs : s.size ≤ maxLen) (hp : p ≤ s.size) (hb : Blk w b 49 (rcells b s p 0 0)) :
    Calls Try.prog 39 #[.pointer (some ⟨b, 0, none⟩)] w (NumPost b s p w) := by
  unfold maxLen at hs
  have c1 := hb.cell 1
  have c2 := hb.cell 2
  have f2 := hb.frozen 2
  simp at c1 c2
  go_enter Try.func39, Try.ntmps39
  go_wp2
  go_quiet (fail)
  go_wp2
  go_loopw [3, 16] (fun s3 s16 wr => ∃ k acc : Nat, s16 = .int .i64 k ∧ s3 = .int .i64 acc ∧ k ≤ 9 ∧ p + k ≤ s.size ∧ acc < 128 ^ k ∧ Oct.scan 0 (s.data.toList.drop p) = Oct.fin acc k (Oct.scan k (s.data.toList.drop (p + k))) ∧ Kept w wr) (fun _ s16 _ => s.size - p - (intOf s16).toNat)
  case atStart =>
    refine ⟨0, 0, rfl, rfl, by omega, by omega, by simp, ?_, (Kept.refl w).drewN _⟩
    unfold Oct.fin
    rw [Nat.add_zero]
    rcases Oct.scan_err 0 (s.data.toList.drop p) with h | h | h
    · rw [if_pos h]
      simp only [Nat.pow_zero, Nat.one_mul, Nat.zero_add]
      exact Prod.ext h rfl
    · rw [if_neg (by rw [h.1]; decide)]; exact Prod.ext rfl h.2
    · rw [if_neg (by rw [h.1]; decide)]; exact Prod.ext rfl h.2
  case round =>
    obtain ⟨k, acc, rfl, rfl, hk, hpk, ha, hf, hkp⟩ := hrel
    have hb' := hb.kept hkp
    have d1 := hb'.cell 1
    have d2 := hb'.cell 2
    have g2 := hb'.frozen 2
    simp at d1 d2
    by_cases hlt : (k : Int) < (s.size : Int) - (p : Int)
    · by_cases h9 : k = 9
      · subst h9
        rw [drop_cons s (p + 9) (by omega), scan_tenth] at hf
        have HF := Lib.hid hf
        clear hf
        go_wp2
        exact ⟨rfl, NumPost.bad HF.out (by decide) rfl (Only.of_kept hkp) hb'⟩
      · have hx : ((k : Int) == 9) = false := by simp; omega
        have hi1 : 0 ≤ (p : Int) + (k : Int) := by omega
        have hi2 : (p : Int) + (k : Int) < s.size := by omega
        have hk8 : (k : Int) ≤ 8 := by omega
        have hx0 : (s[p + k].toNat : Int) ≤ 255 := by have := s[p + k].toNat_lt; omega
        rw [drop_cons s (p + k) (by omega)] at hf
        generalize hX : s[p + k] = x at hx0 hf
        obtain ⟨an1, an2⟩ := acc_next (x := x.toNat) (show k ≤ 8 by omega) ha
        have AN := Lib.hid an1
        clear an1
        by_cases hge : 128 ≤ (x.toNat : Int)
        · rw [scan_more (by omega) (by omega)] at hf
          have HF := Lib.hid hf
          clear hf
          go_wp2
          go_quiet (fail)
          go_wp2
          go_roundw
          case rel => exact ⟨k + 1, acc + x.toNat % 128 * 128 ^ k, by go_num, congrArg (Value.int .i64) AN.out, by omega, by omega, an2, HF.out, hkp.drewN _⟩
          case measure => simp [intOf]; omega
        · by_cases hz : x.toNat = 0 ∧ 0 < k
          · rw [scan_nought (by omega) hz] at hf
            have HF := Lib.hid hf
            clear hf
            obtain ⟨hx0', hk0⟩ := hz
            have hk0' : 0 < (k : Int) := by omega
            have hxz : (x.toNat : Int) = 0 := by omega
            go_wp2
            go_quiet (fail)
            go_wp2
            exact ⟨rfl, NumPost.bad HF.out (by decide) rfl ((Only.of_kept hkp).drewN _) (hb'.drewN _)⟩
          · rw [scan_last (by omega) (by omega) hz] at hf
            have HF := Lib.hid hf
            clear hf
            have hR : ∀ (wr' : World), Only (· = b) w wr' → Blk wr' b 49 (rcells b s p 0 0) → NumPost b s p w (.returned (.int .i64 (wrap64 ((acc : Int) + wrap64 ((x.toNat : Int) % 128 * 2 ^ (7 * k)))))) (wr'.setCell ⟨b, 2, none⟩ (.int .i64 ((p : Int) + ((k : Int) + 1)))) := fun wr' ho hbl =>
              NumPost.ok HF.out rfl AN.out (ho.put _ _) (by
                have := hbl.put 2 (.int .i64 ((p : Int) + ((k : Int) + 1)))
                have e : ((p + (k + 1) : Nat) : Int) = (p : Int) + ((k : Int) + 1) := by omega
                unfold rcells
                rw [e]
                exact this)
            have HR := Lib.hid hR
            clear hR AN HF
            by_cases hxz : x.toNat = 0
            · have hk0 : ¬ (0 : Int) < (k : Int) := by omega
              have hk0' : decide ((0 : Int) < (k : Int)) = false := by simpa using hk0
              have hxz' : ((x.toNat : Int) == 0) = true := by simp; omega
              clear hz hxz
              go_wp2
              go_quiet (fail)
              go_wp2
              go_ret
              exact (HR.out _ ((Only.of_kept hkp).drewN _) (hb'.drewN _))
            · have hxz' : ((x.toNat : Int) == 0) = false := by simp; omega
              clear hz hxz
              go_wp2
              go_quiet (fail)
              go_wp2
              go_ret
              exact (HR.out _ ((Only.of_kept hkp).drewN _) (hb'.drewN _))
    · have hkz : k = s.size - p := by omega
      have hd : s.data.toList.drop (p + k) = [] := List.drop_of_length_le (by simp; omega)
      rw [hd, scan_short] at hf
      have HF := Lib.hid hf
      clear hf hd hkz
      go_wp2
      exact ⟨rfl, NumPost.bad HF.out (by decide) rfl (Only.of_kept hkp) hb'⟩
end Go.Proofs.Ytfbbhkhingfdeaa
