/- The document's own answers about chains (chaperonref10): alike, first, last, Seen, Bound; texts written over. -/
import Derived.Test.YtjfhfalhcmgaaaaChx
set_option linter.unusedSimpArgs false
set_option linter.unusedVariables false
set_option maxRecDepth 100000
namespace Go.Proofs.Ytjfhfalhcmgaaaa
open Go.ChangeShapes Go.WideShapes Go.ChangeAt Go.RowKit

theorem rseen_c (own : ByteArray) (l : List Ly) (v : Value) (w : World) (h : LysAt w v l) :
    Calls Try.prog 26 #[.string own, v] w fun e w' => e = .returned (.string (seenV own l)) ∧ w' = w := by
  obtain ⟨a, c, rfl, h1, h2, hat⟩ := h
  unfold maxLen at h2
  by_cases h0 : l.length = 0
  · obtain rfl : l = [] := List.eq_nil_of_length_eq_zero h0
    go_enter Try.func26, Try.ntmps26
    go_wp2_with fail
    go_ret
    exact ⟨rfl, rfl⟩
  · have hlt : l.length - 1 < l.length := by omega
    have hx : l[l.length - 1]? = some l[l.length - 1] := List.getElem?_eq_getElem hlt
    have hs : seenV own l = (l[l.length - 1]).cls := by
      unfold seenV
      rw [List.getLast?_eq_getElem?, hx]
    obtain ⟨b, o, rfl, hy⟩ := hat _ _ hx
    rw [hs]
    generalize l[l.length - 1] = x at hy
    obtain ⟨y0, y1, y2, y3⟩ := hy
    obtain ⟨m, hm⟩ : ∃ m, l.length = m + 1 := ⟨l.length - 1, by omega⟩
    rw [hm] at y1 h1 ⊢
    simp only [Nat.add_sub_cancel] at y1
    have hmI : ¬ ((m : Int) + 1) = 0 := by omega
    have hml : m + 1 ≤ 9223372036854775807 := by omega
    clear hat hx hs y0 y2 h0 hlt hm
    go_enter Try.func26, Try.ntmps26
    go_wp2_with fail
    go_ret
    exact ⟨rfl, rfl⟩

theorem rbound_c (n : Int) (w : World) (h1 : -9223372036854775808 ≤ n) (h2 : n ≤ 9223372036854775807) :
    Calls Try.prog 22 #[.int .i64 n] w fun e w' => e = .returned (.tuple #[.int .i64 (bndV n).1, .int .i64 (bndV n).2]) ∧ w' = w := by
  by_cases ha : n < 0
  · rw [show bndV n = (0, 3) by unfold bndV; rw [if_pos ha]]
    go_enter Try.func22, Try.ntmps22
    go_wp2_with fail
    go_ret2
    exact ⟨rfl, rfl⟩
  · by_cases hb : 40 < n
    · rw [show bndV n = (0, 3) by unfold bndV; rw [if_neg ha, if_pos hb]]
      go_enter Try.func22, Try.ntmps22
      go_wp2_with fail
      go_ret2
      exact ⟨rfl, rfl⟩
    · rw [show bndV n = (2 * (2 * n) * (2 * n + 1), 0) by unfold bndV; rw [if_neg ha, if_neg hb]]
      obtain ⟨k, rfl⟩ : ∃ k : Nat, n = (k : Int) := ⟨n.toNat, by omega⟩
      have hk : k ≤ 40 := by omega
      have hw1 : wrap64 (2 * (k : Int)) = 2 * (k : Int) := by unfold wrap64; omega
      have hw2 : wrap64 (2 * (2 * (k : Int))) = 2 * (2 * (k : Int)) := by unfold wrap64; omega
      have hw3 : wrap64 (2 * (k : Int) + 1) = 2 * (k : Int) + 1 := by unfold wrap64; omega
      have hw4 : wrap64 (2 * (2 * (k : Int)) * (2 * (k : Int) + 1)) = 2 * (2 * (k : Int)) * (2 * (k : Int) + 1) := by
        have h5 : 0 ≤ (4 * k) * (2 * k + 1) := Nat.zero_le _
        have h6 : (4 * k) * (2 * k + 1) ≤ 160 * 81 := Nat.mul_le_mul (by omega) (by omega)
        have h7 : 2 * (2 * (k : Int)) * (2 * (k : Int) + 1) = (((4 * k) * (2 * k + 1) : Nat) : Int) := by
          rw [show 2 * (2 * (k : Int)) = ((4 * k : Nat) : Int) by omega, show 2 * (k : Int) + 1 = ((2 * k + 1 : Nat) : Int) by omega, ← Int.natCast_mul]
        rw [h7]
        unfold wrap64
        omega
      go_enter Try.func22, Try.ntmps22
      go_wp2_with fail
      go_ret2
      exact ⟨rfl, rfl⟩

set_option maxHeartbeats 2000000 in
theorem ralike_c (x y : Ly) (w : World) :
    Calls Try.prog 47 #[.agg #[.bool x.out, .string x.cls, .int .i64 x.lab], .agg #[.bool y.out, .string y.cls, .int .i64 y.lab]] w fun e w' => e = .returned (.bool (decide (ky x = ky y))) ∧ Kept w w' := by
  rw [ky_dec]
  obtain ⟨p1, hp1⟩ : ∃ p, (x.out == y.out) = p := ⟨_, rfl⟩
  obtain ⟨p2, hp2⟩ : ∃ p, (x.cls.toList == y.cls.toList) = p := ⟨_, rfl⟩
  rw [hp1, hp2]
  obtain ⟨W1, hW1⟩ : ∃ W1, (w.alloc (.cells #[.bool x.out, .string x.cls, .int .i64 x.lab] 24)).alloc (.cells #[.bool y.out, .string y.cls, .int .i64 y.lab] 24) = W1 := ⟨_, rfl⟩
  have k1 : Kept w W1 := by rw [← hW1]; exact ((Kept.refl w).alloc _).alloc _
  have A1 : Blk W1 w.heap.size 24 #[.bool x.out, .string x.cls, .int .i64 x.lab] := by rw [← hW1]; exact (Blk.new w _ _).alloc _
  have B1 : Blk W1 (w.heap.size + 1) 24 #[.bool y.out, .string y.cls, .int .i64 y.lab] := by
    have := Blk.new (w.alloc (.cells #[.bool x.out, .string x.cls, .int .i64 x.lab] 24)) 24 #[.bool y.out, .string y.cls, .int .i64 y.lab]
    rw [World.size_alloc, hW1] at this
    exact this
  have a0 := A1.cell 0
  have a1 := A1.cell 1
  have b0 := B1.cell 0
  have b1 := B1.cell 1
  simp only [List.getElem?_toArray, List.getElem?_cons_zero, List.getElem?_cons_succ] at a0 a1 b0 b1
  have HK1 := Lib.hid k1
  have HW1 := Lib.hid hW1
  clear k1 A1 B1 hW1
  cases p1 with
  | false =>
    go_enter Try.func47, Try.ntmps47
    go_wp2_with (rw [HW1.out])
    go_ret
    exact ⟨rfl, HK1.out⟩
  | true =>
    cases p2 with
    | false =>
      go_enter Try.func47, Try.ntmps47
      go_wp2_with (rw [HW1.out])
      go_ret
      exact ⟨rfl, HK1.out⟩
    | true =>
      go_enter Try.func47, Try.ntmps47
      go_wp2_with (rw [HW1.out])
      go_ret
      exact ⟨rfl, HK1.out⟩

/-- Where the first one of a letter stands, at or behind a place. -/
def FirstR (ks : List Ltr) (q : Ltr) (k0 : Nat) (r : Int) : Prop :=
  (∃ j : Nat, r = j ∧ k0 ≤ j ∧ ks[j]? = some q ∧ ∀ m, k0 ≤ m → m < j → ks[m]? ≠ some q) ∨ (r = -1 ∧ ∀ m, k0 ≤ m → ks[m]? ≠ some q)
theorem ks_at {l : List Ly} {k : Nat} {x : Ly} (h : l[k]? = some x) : (l.map ky)[k]? = some (ky x) := by rw [List.getElem?_map, h]; rfl

set_option maxHeartbeats 4000000 in
theorem rfirst_c (l : List Ly) (y : Ly) (k0 : Nat) (v : Value) (w : World) (h : LysAt w v l) (hk0 : k0 ≤ l.length) :
    Calls Try.prog 44 #[v, .agg #[.bool y.out, .string y.cls, .int .i64 y.lab], .int .i64 k0] w fun e w' => (∃ r, e = .returned (.int .i64 r) ∧ FirstR (l.map ky) (ky y) k0 r) ∧ Kept w w' := by
  obtain ⟨la, lc, rfl, hlc, hcm, hat⟩ := h
  have HAT := Lib.hid hat
  clear hat
  unfold maxLen at hcm
  obtain ⟨W1, hW1⟩ : ∃ W1, w.alloc (.cells #[.bool y.out, .string y.cls, .int .i64 y.lab] 24) = W1 := ⟨_, rfl⟩
  have k1 : Kept w W1 := by rw [← hW1]; exact (Kept.refl w).alloc _
  have A1 : Blk W1 w.heap.size 24 #[.bool y.out, .string y.cls, .int .i64 y.lab] := by rw [← hW1]; exact Blk.new w _ _
  have HK1 := Lib.hid k1
  have HA1 := Lib.hid A1
  have HW1 := Lib.hid hW1
  clear k1 A1 hW1
  go_enter Try.func44, Try.ntmps44
  go_wp2_with fail
  rw [HW1.out]
  go_loopw [7] (fun i wq => ∃ k : Nat, k0 ≤ k ∧ k ≤ l.length ∧ i = .int .i64 k ∧ Hid (∀ m, k0 ≤ m → m < k → (l.map ky)[m]? ≠ some (ky y)) ∧ Kept W1 wq) (fun i wq => l.length - (intOf i).toNat)
  case atStart => exact ⟨k0, Nat.le_refl _, hk0, rfl, Lib.hid (fun m h1 h2 => by omega), Kept.refl _⟩
  case round =>
    obtain ⟨k, hk, hkl, rfl, HN, hkp⟩ := hrel
    have HK := Lib.hid hkp
    by_cases hlt : k < l.length
    · have hltI : (k : Int) < (l.length : Int) := by omega
      have hx : l[k]? = some l[k] := List.getElem?_eq_getElem hlt
      generalize l[k] = x at hx
      have HX := Lib.hid (ks_at hx)
      obtain ⟨lb, lo, rfl, hly⟩ := HAT.out _ _ hx
      obtain ⟨x0, x1, x2, x3⟩ := hly.kept (HK1.out.trans hkp)
      have a0 := (HA1.out.kept hkp).cell 0
      have a1 := (HA1.out.kept hkp).cell 1
      have a2 := (HA1.out.kept hkp).cell 2
      simp only [List.getElem?_toArray, List.getElem?_cons_zero, List.getElem?_cons_succ] at a0 a1 a2
      have HC := Lib.hid (fun W => ralike_c x y W)
      obtain ⟨b, hb⟩ : ∃ b, decide (ky x = ky y) = b := ⟨_, rfl⟩
      rw [hb] at HC
      have HB := Lib.hid hb
      clear hx hly hkp hb x3
      go_wp2_with fail
      go_region_with (go_at_call 47; refine (HC.out _).mono ?_; rintro e w3 ⟨rfl, k3⟩; have HK3 := Lib.hid (HK.out.drew.trans k3))
      all_goals
        cases b with
        | true =>
          go_wp2_with fail
          go_ret
          exact ⟨⟨_, rfl, .inl ⟨k, rfl, hk, by rw [HX.out, of_decide_eq_true HB.out], HN.out⟩⟩, HK1.out.trans HK3.out⟩
        | false =>
          go_wp2_with fail
          go_roundw
          case rel => exact ⟨k + 1, by omega, by omega, by go_num, Lib.hid (fun m h1 h2 => by
            by_cases e : m = k
            · subst e; rw [HX.out]; exact fun h => of_decide_eq_false HB.out (Option.some.inj h)
            · exact HN.out m h1 (by omega)), HK3.out⟩
          case measure => simp [intOf]; omega
    · obtain rfl : k = l.length := by omega
      have hltI : ¬ (l.length : Int) < (l.length : Int) := by omega
      go_wp2_with fail
      go_ret
      exact ⟨⟨_, rfl, .inr ⟨rfl, fun m h1 => by
        by_cases e : m < l.length
        · exact HN.out m h1 e
        · rw [List.getElem?_eq_none (by rw [List.length_map]; omega)]; simp⟩⟩, HK1.out.trans HK.out⟩

end Go.Proofs.Ytjfhfalhcmgaaaa
