/- Merge, Add, Seen, Bound; the statements' helpers: out, in, norms. -/
import Derived.Test.YtjfhfalhcmgaaaaChn
set_option linter.unusedSimpArgs false
set_option linter.unusedVariables false
set_option maxRecDepth 100000
namespace Go.Proofs.Ytjfhfalhcmgaaaa
open Go.ChangeShapes Go.WideShapes Go.ChangeAt Go.RowKit

/-- What tells a chain of one's own. -/
def OwnL (w : World) (l : List Ly) (e : Ending) (w' : World) : Prop :=
  (∃ a c, e = .returned (.slice a l.length c) ∧ w'.ownsRow w.heap.size 24 3 (.slice a l.length c) l.length (l.flatMap lCells)) ∧ Kept w w'

theorem fine_app {l m : List Ly} (h : ∀ x ∈ l, x.cls.size ≤ maxLen) (g : ∀ x ∈ m, x.cls.size ≤ maxLen) : ∀ x ∈ l ++ m, x.cls.size ≤ maxLen := fun x hx => (List.mem_append.1 hx).elim (h x) (g x)
theorem fine_norm {l : List Ly} (h : ∀ x ∈ l, x.cls.size ≤ maxLen) : ∀ x ∈ Chn.norm ky l, x.cls.size ≤ maxLen := fun x hx => h x (Chn.pick_mem hx)
theorem norm_le (l : List Ly) : (Chn.norm ky l).length ≤ l.length := Chn.pick_len_le

set_option maxHeartbeats 2000000 in
theorem merge_c (l m : List Ly) (ua : Option Addr) (uc : Nat) (va : Option Addr) (vc : Nat) (w : World) (hu : LysAt w (.slice ua l.length uc) l) (hv : LysAt w (.slice va m.length vc) m) (hl : l.length ≤ 400) (hm : m.length ≤ 400) :
    Calls Try.prog 14 #[.slice ua l.length uc, .slice va m.length vc] w (OwnL w (Chn.norm ky (l ++ m))) := by
  have hk1 := (Kept.refl w).alloc (.cells #[.slice ua l.length uc, .slice va m.length vc] 22)
  have HC := Lib.hid (concat_c l m ua uc va vc w.heap.size _ (lys_kept hu hk1) (lys_kept hv hk1) (Blk.new w 22 #[.slice ua l.length uc, .slice va m.length vc]) (by omega) (by omega))
  have HF := Lib.hid (fine_app (lys_fine hu) (lys_fine hv))
  have HK1 := Lib.hid hk1
  have HLEN := Lib.hid (show (l ++ m).length ≤ 1000 by simp; omega)
  clear hu hv hk1
  generalize l ++ m = L at HC HF HLEN ⊢
  go_enter Try.func14, Try.ntmps14
  go_wp2_with fail
  refine HC.out.mono ?_
  rintro e w2 ⟨a, c, rfl, hown, k2⟩
  have HN := Lib.hid (norm_c L _ w2 (owns_lys hown HF.out) HLEN.out)
  have HK2 := Lib.hid (HK1.out.trans k2)
  clear hown k2
  go_wp2_with fail
  refine HN.out.mono ?_
  rintro e w3 ⟨a3, c3, rfl, hown, k3⟩
  have HO := Lib.hid (owns_baseL hown HK2.out.size)
  have HK3 := Lib.hid (HK2.out.trans k3)
  clear hown k3
  go_wp2_with fail
  go_ret
  exact ⟨⟨a3, c3, rfl, HO.out⟩, HK3.out⟩

set_option maxHeartbeats 2000000 in
theorem add_c (l : List Ly) (x : Ly) (ua : Option Addr) (uc : Nat) (w : World) (hu : LysAt w (.slice ua l.length uc) l) (hx : x.cls.size ≤ maxLen) (hl : l.length ≤ 400) :
    Calls Try.prog 13 #[.slice ua l.length uc, .agg #[.bool x.out, .string x.cls, .int .i64 x.lab]] w (OwnL w (Chn.norm ky (l ++ [x]))) := by
  obtain ⟨W1, hW1⟩ : ∃ W1, w.alloc (.cells #[.bool x.out, .string x.cls, .int .i64 x.lab] 24) = W1 := ⟨_, rfl⟩
  have k1 : Kept w W1 := by rw [← hW1]; exact (Kept.refl w).alloc _
  have b1 : Blk W1 w.heap.size 24 #[.bool x.out, .string x.cls, .int .i64 x.lab] := by rw [← hW1]; exact Blk.new w _ _
  have s1 : W1.heap.size = w.heap.size + 1 := by rw [← hW1]; simp
  have c0 := b1.cell 0
  have c1 := b1.cell 1
  have c2 := b1.cell 2
  simp only [List.getElem?_toArray, List.getElem?_cons_zero, List.getElem?_cons_succ] at c0 c1 c2
  obtain ⟨W2, hW2⟩ : ∃ W2, W1.alloc (.cells #[.bool x.out, .string x.cls, .int .i64 x.lab] 24) = W2 := ⟨_, rfl⟩
  have k2 : Kept w W2 := by rw [← hW2]; exact k1.alloc _
  have b2 : Blk W2 (w.heap.size + 1) 24 #[.bool x.out, .string x.cls, .int .i64 x.lab] := by rw [← hW2, ← s1]; exact Blk.new W1 _ _
  have HM := Lib.hid (merge_c l [x] ua uc (some ⟨w.heap.size + 1, 0, none⟩) 1 W2 (lys_kept hu k2) (one_ly x hx b2) hl (by simp))
  have HW := Lib.hid (And.intro hW1 hW2)
  have HK2 := Lib.hid k2
  rw [show [x].length = 1 from rfl] at HM
  clear hu hW1 hW2 k1 k2 b1 b2
  go_enter Try.func13, Try.ntmps13
  go_wp2_with (first | rw [HW.out.1] | rw [HW.out.2])
  refine HM.out.mono ?_
  rintro e w3 ⟨⟨a3, c3, rfl, hown⟩, k3⟩
  have HO := Lib.hid (owns_baseL hown HK2.out.size)
  have HK3 := Lib.hid (HK2.out.trans k3)
  clear hown k3
  go_wp2_with fail
  go_ret
  exact ⟨⟨a3, c3, rfl, HO.out⟩, HK3.out⟩

def seenV (own : ByteArray) (l : List Ly) : ByteArray := match l.getLast? with
  | none => own
  | some x => x.cls

theorem seen_c (own : ByteArray) (l : List Ly) (v : Value) (w : World) (h : LysAt w v l) :
    Calls Try.prog 25 #[.string own, v] w fun e w' => e = .returned (.string (seenV own l)) ∧ w' = w := by
  obtain ⟨a, c, rfl, h1, h2, hat⟩ := h
  unfold maxLen at h2
  by_cases h0 : l.length = 0
  · obtain rfl : l = [] := List.eq_nil_of_length_eq_zero h0
    go_enter Try.func25, Try.ntmps25
    go_wp2_with fail
    go_ret
    exact ⟨rfl, rfl⟩
  · have hlt : l.length - 1 < l.length := by omega
    have hx : l[l.length - 1]? = some l[l.length - 1] := List.getElem?_eq_getElem hlt
    have hs : seenV own l = (l[l.length - 1]).cls := by
      unfold seenV
      rw [List.getLast?_eq_getElem?, hx]
    obtain ⟨b, o, rfl, hy⟩ := hat _ _ hx
    rw [hs]
    generalize l[l.length - 1] = x at hy
    obtain ⟨y0, y1, y2, y3⟩ := hy
    obtain ⟨m, hm⟩ : ∃ m, l.length = m + 1 := ⟨l.length - 1, by omega⟩
    rw [hm] at y1 h1 ⊢
    simp only [Nat.add_sub_cancel] at y1
    have hmI : ¬ ((m : Int) + 1) = 0 := by omega
    have hml : m + 1 ≤ 9223372036854775807 := by omega
    clear hat hx hs y0 y2 h0 hlt hm
    go_enter Try.func25, Try.ntmps25
    go_wp2_with fail
    go_ret
    exact ⟨rfl, rfl⟩

def bndV (n : Int) : Int × Int := if n < 0 then (0, 3) else if 40 < n then (0, 3) else (2 * (2 * n) * (2 * n + 1), 0)
theorem bound_c (n : Int) (w : World) (h1 : -9223372036854775808 ≤ n) (h2 : n ≤ 9223372036854775807) :
    Calls Try.prog 21 #[.int .i64 n] w fun e w' => e = .returned (.tuple #[.int .i64 (bndV n).1, .int .i64 (bndV n).2]) ∧ w' = w := by
  by_cases ha : n < 0
  · rw [show bndV n = (0, 3) by unfold bndV; rw [if_pos ha]]
    go_enter Try.func21, Try.ntmps21
    go_wp2_with fail
    go_ret2
    exact ⟨rfl, rfl⟩
  · by_cases hb : 40 < n
    · rw [show bndV n = (0, 3) by unfold bndV; rw [if_neg ha, if_pos hb]]
      go_enter Try.func21, Try.ntmps21
      go_wp2_with fail
      go_ret2
      exact ⟨rfl, rfl⟩
    · rw [show bndV n = (2 * (2 * n) * (2 * n + 1), 0) by unfold bndV; rw [if_neg ha, if_neg hb]]
      obtain ⟨k, rfl⟩ : ∃ k : Nat, n = (k : Int) := ⟨n.toNat, by omega⟩
      have hk : k ≤ 40 := by omega
      have hw1 : wrap64 (2 * (k : Int)) = 2 * (k : Int) := by unfold wrap64; omega
      have hw2 : wrap64 (2 * (2 * (k : Int))) = 2 * (2 * (k : Int)) := by unfold wrap64; omega
      have hw3 : wrap64 (2 * (k : Int) + 1) = 2 * (k : Int) + 1 := by unfold wrap64; omega
      have hw4 : wrap64 (2 * (2 * (k : Int)) * (2 * (k : Int) + 1)) = 2 * (2 * (k : Int)) * (2 * (k : Int) + 1) := by
        have h5 : 0 ≤ (4 * k) * (2 * k + 1) := Nat.zero_le _
        have h6 : (4 * k) * (2 * k + 1) ≤ 160 * 81 := Nat.mul_le_mul (by omega) (by omega)
        have h7 : 2 * (2 * (k : Int)) * (2 * (k : Int) + 1) = (((4 * k) * (2 * k + 1) : Nat) : Int) := by
          rw [show 2 * (2 * (k : Int)) = ((4 * k : Nat) : Int) by omega, show 2 * (k : Int) + 1 = ((2 * k + 1 : Nat) : Int) by omega, ← Int.natCast_mul]
        rw [h7]
        unfold wrap64
        omega
      go_enter Try.func21, Try.ntmps21
      go_wp2_with fail
      go_ret2
      exact ⟨rfl, rfl⟩

theorem out_c (s : ByteArray) (n : Int) (w : World) : Calls Try.prog 30 #[.string s, .int .i64 n] w fun e w' => e = .returned (.agg #[.bool true, .string s, .int .i64 n]) ∧ Kept w w' := by
  go_enter Try.func30, Try.ntmps30
  go_wp2_with fail
  refine bodyPost_ret (v := .agg #[.bool true, .string s, .int .i64 n]) (by simp [results, Try.results30, go_sem]) rfl ⟨rfl, ?_⟩
  first
    | exact (Kept.refl w).alloc _
    | exact ((((Kept.refl w).alloc _).setCell (by simp) _).setCell (by simp) _).setCell (by simp) _
theorem in_c (s : ByteArray) (n : Int) (w : World) : Calls Try.prog 31 #[.string s, .int .i64 n] w fun e w' => e = .returned (.agg #[.bool false, .string s, .int .i64 n]) ∧ Kept w w' := by
  go_enter Try.func31, Try.ntmps31
  go_wp2_with fail
  refine bodyPost_ret (v := .agg #[.bool false, .string s, .int .i64 n]) (by simp [results, Try.results31, go_sem]) rfl ⟨rfl, ?_⟩
  first
    | exact (Kept.refl w).alloc _
    | exact ((((Kept.refl w).alloc _).setCell (by simp) _).setCell (by simp) _).setCell (by simp) _

set_option maxHeartbeats 2000000 in
theorem norms_c (l m : List Ly) (u v : Value) (w : World) (hu : LysAt w u l) (hv : LysAt w v m) (hl : l.length ≤ 1000) :
    Calls Try.prog 29 #[u, v] w fun e w' => e = .returned (.bool (decide (Chn.norm ky l = m))) ∧ Kept w w' := by
  have HN := Lib.hid (norm_c l u w hu hl)
  have HF := Lib.hid (fine_norm (lys_fine hu))
  have HV := Lib.hid hv
  obtain ⟨ua, uc, rfl, _⟩ := hu
  obtain ⟨va, vc, rfl, _⟩ := hv
  generalize Chn.norm ky l = P at HN HF ⊢
  obtain ⟨ans, hans⟩ : ∃ b, decide (P = m) = b := ⟨_, rfl⟩
  rw [hans]
  have HA := Lib.hid hans
  clear hans
  go_enter Try.func29, Try.ntmps29
  go_wp2_with fail
  refine HN.out.mono ?_
  rintro e w2 ⟨a, c, rfl, hown, k2⟩
  have HS := Lib.hid (sameL_c P m _ _ w2 (owns_lys hown HF.out) (lys_kept HV.out k2))
  have HK2 := Lib.hid k2
  clear hown k2
  rw [HA.out] at HS
  go_wp2_with fail
  refine HS.out.mono ?_
  rintro e w3 ⟨rfl, k3⟩
  have HK3 := Lib.hid (HK2.out.trans k3)
  clear k3
  go_wp2_with fail
  go_ret
  exact ⟨rfl, HK3.out⟩

end Go.Proofs.Ytjfhfalhcmgaaaa
