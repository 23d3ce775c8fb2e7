/- Lists of texts: is one there, are two the same, all of them written over; the document's reserved words and base types as lists. -/
import Derived.Test.YtjdkegfckkbpeaaGreatDoorQz4
import Derived.Test.YtjdkegfckkbpeaaGreatDoorQNam
import Derived.Deep.QuietTactic
import Derived.BigQuiet
import Derived.Handy
import Derived.Test.YtjdkegfckkbpeaaGreatDoorQz16
set_option linter.unusedSimpArgs false
set_option linter.unusedVariables false
set_option maxRecDepth 100000
namespace Go.Proofs.YtjdkegfckkbpeaaGreatDoor
open Go.ChangeShapes Go.WideShapes Go.ChangeAt Go.RowKit
theorem reservedR_c (w : World) : Calls Tryz.prog 186 #[] w fun e w' => ∃ v, e = .returned v ∧ Texts w w' v Wrd.ws := by
 have hk := Lib.hid (((Kept.refl w).alloc))
 go_enter Tryz.func186, Tryz.ntmps186
 go_wp2
 go_ret
 exact ⟨_, rfl, ⟨w.heap.size, 24, rfl, Nat.le_refl _, _, World.alloc_heap_new w _, rfl⟩, hk.out _⟩
theorem basesR_c (w : World) : Calls Tryz.prog 108 #[] w fun e w' => ∃ v, e = .returned v ∧ Texts w w' v Wrd.bs := by
 have hk := Lib.hid (((Kept.refl w).alloc))
 go_enter Tryz.func108, Tryz.ntmps108
 go_wp2
 go_ret
 exact ⟨_, rfl, ⟨w.heap.size, 5, rfl, Nat.le_refl _, _, World.alloc_heap_new w _, rfl⟩, hk.out _⟩
theorem not_before {l : List ByteArray} {s : ByteArray} {k : Nat} (h : s ∉ l.take k) (hk : k < l.length) (hx : ¬ l[k] = s) : s ∉ l.take (k + 1) := by
 rw [List.take_succ_eq_append_getElem hk]
 simp only [List.mem_append, List.mem_singleton, not_or]
 exact ⟨h, fun e => hx e.symm⟩
set_option maxHeartbeats 1000000 in
theorem in_c (g c : Nat) (l : List ByteArray) (s : ByteArray) (w : World) (hl : l.length ≤ 9223372036854775807) (h : TxtAt w g l) :
  Calls Tryz.prog 107 #[.slice (some ⟨g, 0, none⟩) l.length c, .string s] w fun e w' => e = .returned (.bool (Wrd.has l s)) ∧ w = w' := by
 go_enter Tryz.func107, Tryz.ntmps107
 go_wp2
 go_loop [5] (fun i => ∃ k : Nat, k ≤ l.length ∧ i = .int .i64 k ∧ Hid (s ∉ l.take k)) (fun i => l.length - (intOf i).toNat)
 case atStart => exact ⟨0, by omega, rfl, Lib.hid (by simp)⟩
 case round =>
  obtain ⟨k, hk, rfl, he⟩ := hrel
  by_cases hlt : k < l.length
  ·have hc := h.cell k hlt
   by_cases hx : l[k] = s
   ·have HE := Lib.hid (Wrd.has_iff.2 (show s ∈ l by rw [← hx]; exact List.getElem_mem _))
    have hb : (l[k].toList == s.toList) = true := by rw [hx]; exact beq_self_eq_true _
    clear hx h
    generalize l[k] = x at *
    go_wp2
    go_ret
    exact ⟨by rw [HE.out]; rfl, rfl⟩
   ·have HN := Lib.hid (not_before he.out hlt hx)
    have hb := beq_no hx
    clear hx h
    generalize l[k] = x at *
    go_wp2
    go_round
    case rel => exact ⟨k + 1, by omega, by go_num, HN⟩
    case measure => simp [intOf]; omega
  ·obtain rfl : k = l.length := by omega
   have HE := Lib.hid (Wrd.has_no (show s ∉ l by have := he.out; rwa [List.take_length] at this))
   clear h
   go_wp2
   go_ret
   exact ⟨by rw [HE.out]; rfl, rfl⟩
theorem smallR_v (n : Nat) (v : Bool) (w : World) (h : Wrd.smB n = v) : Calls Tryz.prog 185 #[.int .u8 n] w fun e w' => e = .returned (.bool v) ∧ w = w' := by
 rcases two_le h with ⟨rfl, h1, h2⟩ | ⟨rfl, h1⟩ | ⟨rfl, h1, h2⟩
 all_goals
  clear h
  try have h3 : decide ((n : Int) ≤ 122) = true := decide_eq_true (by omega)
  try have h3 : decide ((n : Int) ≤ 122) = false := decide_eq_false (by omega)
  go_enter Tryz.func185, Tryz.ntmps185
  go_wp2
  go_ret
  exact ⟨rfl, rfl⟩
theorem greatR_v (n : Nat) (v : Bool) (w : World) (h : Wrd.caB n = v) : Calls Tryz.prog 148 #[.int .u8 n] w fun e w' => e = .returned (.bool v) ∧ w = w' := by
 rcases two_le h with ⟨rfl, h1, h2⟩ | ⟨rfl, h1⟩ | ⟨rfl, h1, h2⟩
 all_goals
  clear h
  try have h3 : decide ((n : Int) ≤ 90) = true := decide_eq_true (by omega)
  try have h3 : decide ((n : Int) ≤ 90) = false := decide_eq_false (by omega)
  go_enter Tryz.func148, Tryz.ntmps148
  go_wp2
  go_ret
  exact ⟨rfl, rfl⟩
/-- 1 to 20 letters and digits. -/
def wrd (s : ByteArray) : Bool := decide (1 ≤ s.size) && decide (s.size ≤ 20) && s.data.toList.all (fun c => Wrd.kd c != 3)
theorem spelt_wrd (s : ByteArray) (f : Nat) : Wrd.spelt s f = (wrd s && (Wrd.kd (s.data.toList.headD 0) == f)) := rfl
theorem wrd_pos {s : ByteArray} (h : wrd s = true) : 0 < s.size := by
 unfold wrd at h
 by_cases h1 : 1 ≤ s.size
 ·exact h1
 ·rw [decide_eq_false h1] at h; cases h
theorem wrd_len {s : ByteArray} (h : s.size < 1 ∨ 20 < s.size) : wrd s = false := by
 unfold wrd
 rcases h with h | h
 ·rw [decide_eq_false (show ¬ 1 ≤ s.size by omega)]; rfl
 ·rw [decide_eq_false (show ¬ s.size ≤ 20 by omega)]; simp
theorem wrd_at {s : ByteArray} {k : Nat} (hk : k < s.size) (h : Wrd.kd s[k] = 3) : wrd s = false := by
 have : s.data.toList.all (fun c => Wrd.kd c != 3) = false := by
  rw [List.all_eq_false]
  exact ⟨s[k], Wrd.at_mem hk, by rw [h]; decide⟩
 unfold wrd
 rw [this]; simp
theorem wrd_all {s : ByteArray} (h1 : 0 < s.size) (h2 : s.size ≤ 20) (ha : ∀ k (hk : k < s.size), Wrd.kd s[k] ≠ 3) : wrd s = true := by
 have e3 : s.data.toList.all (fun c => Wrd.kd c != 3) = true := by
  rw [List.all_eq_true]
  intro c hc
  obtain ⟨k, hk, rfl⟩ := Wrd.mem_at hc
  simpa using ha k hk
 unfold wrd
 rw [decide_eq_true (show 1 ≤ s.size from h1), decide_eq_true h2, e3]; rfl
/-- The first k letters are letters. -/
def WdR (s : ByteArray) (k : Nat) : Prop := ∀ j (hj : j < s.size), j < k → Wrd.kd s[j] ≠ 3
theorem WdR.next {s : ByteArray} {k : Nat} (h : WdR s k) (hk : k < s.size) (h3 : Wrd.kd s[k] ≠ 3) : WdR s (k + 1) := by
 intro j hj hjk
 by_cases e : j = k
 ·subst e; exact h3
 ·exact h j hj (by omega)
theorem kd_a {c : UInt8} (h : Wrd.smB c.toNat = true) : Wrd.kd c ≠ 3 := by unfold Wrd.kd; rw [if_pos h]; decide
theorem kd_b {c : UInt8} (ha : Wrd.smB c.toNat = false) (h : Wrd.caB c.toNat = true) : Wrd.kd c ≠ 3 := by unfold Wrd.kd; rw [if_neg (by rw [ha]; decide), if_pos h]; decide
theorem kd_d {c : UInt8} (ha : Wrd.smB c.toNat = false) (hb : Wrd.caB c.toNat = false) (h : Wrd.diB c.toNat = true) : Wrd.kd c ≠ 3 := by unfold Wrd.kd; rw [if_neg (by rw [ha]; decide), if_neg (by rw [hb]; decide), if_pos h]; decide
theorem kd_n {c : UInt8} (ha : Wrd.smB c.toNat = false) (hb : Wrd.caB c.toNat = false) (h : Wrd.diB c.toNat = false) : Wrd.kd c = 3 := by unfold Wrd.kd; rw [ha, hb, h]; rfl
set_option maxHeartbeats 2000000 in
theorem wordR_c (s : ByteArray) (w : World) (hs : s.size ≤ 9223372036854775807) :
  Calls Tryz.prog 147 #[.string s] w fun e w' => e = .returned (.bool (wrd s)) ∧ w = w' := by
 by_cases h1 : s.size < 1
 ·have HE := Lib.hid (wrd_len (s := s) (.inl h1))
  have hz : (s.size : Int) < 1 := by omega
  go_enter Tryz.func147, Tryz.ntmps147
  go_wp2
  go_ret
  exact ⟨by rw [HE.out]; rfl, rfl⟩
 by_cases h2 : 20 < s.size
 ·have HE := Lib.hid (wrd_len (s := s) (.inr h2))
  have hz : 1 ≤ (s.size : Int) := by omega
  have hy : decide ((20 : Int) < (s.size : Int)) = true := decide_eq_true (by omega)
  clear h1 h2
  go_enter Tryz.func147, Tryz.ntmps147
  go_wp2
  go_ret
  exact ⟨by rw [HE.out]; rfl, rfl⟩
 have hz : 1 ≤ (s.size : Int) := by omega
 have hy : decide ((20 : Int) < (s.size : Int)) = false := decide_eq_false (by omega)
 have hsz : s.size ≤ 20 := by omega
 clear h1 h2
 go_enter Tryz.func147, Tryz.ntmps147
 go_wp2
 go_loop [3] (fun i => ∃ k : Nat, k ≤ s.size ∧ i = .int .i64 k ∧ Hid (WdR s k)) (fun i => s.size - (intOf i).toNat)
 case atStart => exact ⟨0, by omega, rfl, Lib.hid (fun _ _ h => by omega)⟩
 case round =>
  obtain ⟨k, hk, rfl, he⟩ := hrel
  by_cases hlt : k < s.size
  ·have H1 := fun v hq => Lib.hid (fun w => smallR_v (s[k]'hlt).toNat v w hq)
   have H2 := fun v hq => Lib.hid (fun w => greatR_v (s[k]'hlt).toNat v w hq)
   cases ha : Wrd.smB s[k].toNat with
   | true =>
    have HN := Lib.hid (he.out.next hlt (kd_a ha))
    replace H1 := H1 _ ha
    clear ha H2
    go_wp2_with fail
    refine (H1.out _).mono ?_
    rintro e w2 ⟨rfl, rfl⟩
    go_wp2_with fail
    go_round
    case rel => exact ⟨k + 1, by omega, by go_num, HN⟩
    case measure => simp [intOf]; omega
   | false =>
    replace H1 := H1 _ ha
    cases hb : Wrd.caB s[k].toNat with
    | true =>
     have HN := Lib.hid (he.out.next hlt (kd_b ha hb))
     replace H2 := H2 _ hb
     clear ha hb
     go_wp2_with fail
     refine (H1.out _).mono ?_
     rintro e w2 ⟨rfl, rfl⟩
     go_wp2_with fail
     refine (H2.out _).mono ?_
     rintro e w2 ⟨rfl, rfl⟩
     go_wp2_with fail
     go_round
     case rel => exact ⟨k + 1, by omega, by go_num, HN⟩
     case measure => simp [intOf]; omega
    | false =>
     replace H2 := H2 _ hb
     rcases two_le (rfl : Wrd.diB s[k].toNat = _) with ⟨hd, h1, h2⟩ | ⟨hd, h1⟩ | ⟨hd, h1, h2⟩
     ·have HN := Lib.hid (he.out.next hlt (kd_d ha hb hd))
      have h3 : decide ((57 : Int) < (s[k].toNat : Int)) = false := decide_eq_false (by omega)
      clear ha hb hd
      go_wp2_with fail
      refine (H1.out _).mono ?_
      rintro e w2 ⟨rfl, rfl⟩
      go_wp2_with fail
      refine (H2.out _).mono ?_
      rintro e w2 ⟨rfl, rfl⟩
      go_wp2_with fail
      go_round
      case rel => exact ⟨k + 1, by omega, by go_num, HN⟩
      case measure => simp [intOf]; omega
     ·have HE := Lib.hid (wrd_at hlt (kd_n ha hb hd))
      clear ha hb hd
      go_wp2_with fail
      refine (H1.out _).mono ?_
      rintro e w2 ⟨rfl, rfl⟩
      go_wp2_with fail
      refine (H2.out _).mono ?_
      rintro e w2 ⟨rfl, rfl⟩
      go_wp2_with fail
      go_ret
      exact ⟨by rw [HE.out]; rfl, rfl⟩
     ·have HE := Lib.hid (wrd_at hlt (kd_n ha hb hd))
      have h3 : decide ((57 : Int) < (s[k].toNat : Int)) = true := decide_eq_true (by omega)
      clear ha hb hd
      go_wp2_with fail
      refine (H1.out _).mono ?_
      rintro e w2 ⟨rfl, rfl⟩
      go_wp2_with fail
      refine (H2.out _).mono ?_
      rintro e w2 ⟨rfl, rfl⟩
      go_wp2_with fail
      go_ret
      exact ⟨by rw [HE.out]; rfl, rfl⟩
  ·obtain rfl : k = s.size := by omega
   have HE := Lib.hid (wrd_all (by omega) hsz (fun j hj => he.out j hj hj))
   go_wp2
   go_ret
   exact ⟨by rw [HE.out]; rfl, rfl⟩
theorem len_bs : Wrd.bs.length = 5 := rfl
theorem len_ws' : Wrd.ws.length = 24 := rfl
theorem baseR_c (s : ByteArray) (w : World) : Calls Tryz.prog 77 #[.string s] w fun e w' => e = .returned (.bool (Wrd.base s)) ∧ Kept w w' := by
 go_enter Tryz.func77, Tryz.ntmps77
 go_wp2_with fail
 refine (basesR_c _).mono ?_
 rintro e w1 ⟨v, rfl, ⟨g, c, rfl, hg, ht⟩, k1⟩
 go_wp2_with fail
 refine (in_c g c Wrd.bs s _ (by rw [len_bs]; omega) ht).mono ?_
 rintro e w2 ⟨rfl, rfl⟩
 go_wp2_with fail
 go_ret
 exact ⟨rfl, k1⟩
theorem kd0 {c : UInt8} : (Wrd.kd c == 0) = Wrd.smB c.toNat := by
 unfold Wrd.kd
 cases Wrd.smB c.toNat <;> cases Wrd.caB c.toNat <;> cases Wrd.diB c.toNat <;> rfl
theorem kd1 {c : UInt8} : (Wrd.kd c == 1) = Wrd.caB c.toNat := by
 unfold Wrd.kd
 have h : Wrd.caB c.toNat = true → Wrd.smB c.toNat = false := by
  unfold Wrd.caB Wrd.smB
  simp
  omega
 cases h1 : Wrd.caB c.toNat
 ·cases Wrd.smB c.toNat <;> cases Wrd.diB c.toNat <;> rfl
 ·rw [h h1]; rfl
theorem classR_c (s : ByteArray) (w : World) (hs : s.size ≤ 9223372036854775807) : Calls Tryz.prog 104 #[.string s] w fun e w' => e = .returned (.bool (Wrd.cls s)) ∧ w = w' := by
 unfold Wrd.cls
 rw [spelt_wrd]
 have H1 := Lib.hid (fun w => wordR_c s w hs)
 cases hw : wrd s with
 | false =>
  rw [hw] at H1
  clear hw
  go_enter Tryz.func104, Tryz.ntmps104
  go_wp2_with fail
  refine (H1.out _).mono ?_
  rintro e w1 ⟨rfl, rfl⟩
  go_wp2_with fail
  go_ret
  exact ⟨rfl, rfl⟩
 | true =>
  have hp := wrd_pos hw
  rw [hw] at H1
  rw [Wrd.head_at hp, kd1]
  have H2 := Lib.hid (fun w => greatR_v (s[0]'hp).toNat _ w rfl)
  generalize Wrd.caB (s[0]'hp).toNat = b at *
  clear hw
  go_enter Tryz.func104, Tryz.ntmps104
  go_wp2_with fail
  refine (H1.out _).mono ?_
  rintro e w1 ⟨rfl, rfl⟩
  go_wp2_with fail
  refine (H2.out _).mono ?_
  rintro e w1 ⟨rfl, rfl⟩
  go_wp2_with fail
  go_ret
  exact ⟨by cases b <;> rfl, rfl⟩
theorem nameR_c (s : ByteArray) (w : World) (hs : s.size ≤ 9223372036854775807) : Calls Tryz.prog 149 #[.string s] w fun e w' => e = .returned (.bool (Wrd.name s)) ∧ Kept w w' := by
 unfold Wrd.name
 rw [spelt_wrd]
 have H1 := Lib.hid (fun w => wordR_c s w hs)
 cases hw : wrd s with
 | false =>
  rw [hw] at H1
  clear hw
  go_enter Tryz.func149, Tryz.ntmps149
  go_wp2_with fail
  refine (H1.out _).mono ?_
  rintro e w1 ⟨rfl, rfl⟩
  go_wp2_with fail
  go_ret
  exact ⟨rfl, Kept.refl _⟩
 | true =>
  have hp := wrd_pos hw
  rw [hw] at H1
  rw [Wrd.head_at hp, kd0]
  have H2 := Lib.hid (fun w => smallR_v (s[0]'hp).toNat _ w rfl)
  have H3 := Lib.hid (fun g c w ht => in_c g c Wrd.ws s w (by rw [len_ws']; omega) ht)
  generalize Wrd.smB (s[0]'hp).toNat = b at *
  unfold Wrd.key
  generalize Wrd.has Wrd.ws s = k at *
  clear hw
  cases b
  ·go_enter Tryz.func149, Tryz.ntmps149
   go_wp2_with fail
   refine (H1.out _).mono ?_
   rintro e w1 ⟨rfl, rfl⟩
   go_wp2_with fail
   refine (H2.out _).mono ?_
   rintro e w1 ⟨rfl, rfl⟩
   go_wp2_with fail
   go_ret
   exact ⟨rfl, Kept.refl _⟩
  ·go_enter Tryz.func149, Tryz.ntmps149
   go_wp2_with fail
   refine (H1.out _).mono ?_
   rintro e w1 ⟨rfl, rfl⟩
   go_wp2_with fail
   refine (H2.out _).mono ?_
   rintro e w1 ⟨rfl, rfl⟩
   go_wp2_with fail
   refine (reservedR_c _).mono ?_
   rintro e w1 ⟨v, rfl, ⟨g, c, rfl, hg, ht⟩, k1⟩
   go_wp2_with fail
   refine (H3.out g c _ ht).mono ?_
   rintro e w2 ⟨rfl, rfl⟩
   go_wp2_with fail
   go_ret
   exact ⟨by cases k <;> rfl, k1⟩
theorem kindR_c (s : ByteArray) (w : World) (hs : s.size ≤ 9223372036854775807) : Calls Tryz.prog 187 #[.string s] w fun e w' => e = .returned (.int .i64 (Wrd.kind s)) ∧ Kept w w' := by
 have H1 := Lib.hid (fun g c w ht => in_c g c Wrd.bs s w (by rw [len_bs]; omega) ht)
 have H2 := Lib.hid (fun w => classR_c s w hs)
 unfold Wrd.kind Wrd.base
 generalize Wrd.has Wrd.bs s = a at *
 generalize Wrd.cls s = c at *
 clear hs
 cases a
 ·by_cases hq : s = ⟨#[63]⟩
  ·have hb : (s.toList == [63]) = true := lit_yes hq
   rw [if_pos hq]
   clear hq
   go_enter Tryz.func187, Tryz.ntmps187
   go_wp2_with fail
   refine (basesR_c _).mono ?_
   rintro e w1 ⟨v, rfl, ⟨g, c, rfl, hg, ht⟩, k1⟩
   go_wp2_with fail
   refine (H1.out _ _ _ ht).mono ?_
   rintro e w2 ⟨rfl, rfl⟩
   go_wp2_with fail
   go_ret
   exact ⟨rfl, k1⟩
  ·have hb : (s.toList == [63]) = false := lit_no hq
   rw [if_neg hq]
   clear hq
   cases c
   all_goals
    go_enter Tryz.func187, Tryz.ntmps187
    go_wp2_with fail
    refine (basesR_c _).mono ?_
    rintro e w1 ⟨v, rfl, ⟨g, c, rfl, hg, ht⟩, k1⟩
    go_wp2_with fail
    refine (H1.out _ _ _ ht).mono ?_
    rintro e w2 ⟨rfl, rfl⟩
    go_wp2_with fail
    refine (H2.out _).mono ?_
    rintro e w2 ⟨rfl, rfl⟩
    go_wp2_with fail
    go_ret
    exact ⟨rfl, k1⟩
 ·go_enter Tryz.func187, Tryz.ntmps187
  go_wp2_with fail
  refine (basesR_c _).mono ?_
  rintro e w1 ⟨v, rfl, ⟨g, c, rfl, hg, ht⟩, k1⟩
  go_wp2_with fail
  refine (H1.out _ _ _ ht).mono ?_
  rintro e w2 ⟨rfl, rfl⟩
  go_wp2_with fail
  go_ret
  exact ⟨rfl, k1⟩
theorem kind_cases (s : ByteArray) : Wrd.kind s = 0 ∨ Wrd.kind s = 1 ∨ Wrd.kind s = 2 ∨ Wrd.kind s = 3 := by
 unfold Wrd.kind
 split
 ·simp
 ·split
  ·simp
  ·split <;> simp
theorem typeR_c (s : ByteArray) (w : World) (hs : s.size ≤ 9223372036854775807) : Calls Tryz.prog 150 #[.string s] w fun e w' => e = .returned (.bool (Wrd.typ s)) ∧ Kept w w' := by
 have H1 := Lib.hid (kindR_c s w hs)
 have hk := kind_cases s
 unfold Wrd.typ
 generalize Wrd.kind s = n at *
 rcases hk with rfl | rfl | rfl | rfl
 all_goals
  go_enter Tryz.func150, Tryz.ntmps150
  go_wp2_with fail
  refine (H1.out).mono ?_
  rintro e w1 ⟨rfl, k1⟩
  go_wp2_with fail
  go_ret
  exact ⟨rfl, k1⟩
theorem rcls6_c (t : List Tab.C) (v : Value) (s : ByteArray) (w : World) (h : TabAt w v t) :
  Calls Tryz.prog 78 #[v, .string s] w fun e w' => e = .returned (.bool (Tab.isC t s)) ∧ w' = w := by
 have HC := Lib.hid (rfind_c t v s w h)
 unfold FindPost at HC
 unfold Tab.isC
 generalize Tab.num (Tab.ix Tab.C.name t s) = n at HC ⊢
 generalize (Tab.ix Tab.C.name t s).isSome = y at HC ⊢
 obtain ⟨a, c, rfl, _⟩ := h
 go_enter Tryz.func78, Tryz.ntmps78
 go_wp2_with fail
 refine HC.out.mono ?_
 rintro e w1 ⟨rfl, rfl⟩
 go_wp2_with fail
 go_ret
 exact ⟨rfl, rfl⟩
theorem isT_or (t : List Tab.C) (s : ByteArray) : Tab.isT t s = (Wrd.base s || (decide (s = ⟨#[63]⟩) || Tab.isC t s)) := by
 unfold Tab.isT
 rw [← Bool.or_assoc]
 congr 1
 rw [Bool.eq_iff_iff]
 unfold Tab.basics Wrd.base Wrd.has Wrd.bs
 simp
 constructor
 ·rintro (e | e | e | e | e | e) <;> subst e <;> simp
 ·rintro ((e | e | e | e | e) | e) <;> subst e <;> simp
set_option maxHeartbeats 2000000 in
theorem rtyped6_c (t : List Tab.C) (v : Value) (s : ByteArray) (w : World) (h : TabAt w v t) :
  Calls Tryz.prog 44 #[v, .string s] w fun e w' => e = .returned (.bool (Tab.isT t s)) ∧ Kept w w' := by
 have HB := Lib.hid (baseR_c s w)
 have HC := Lib.hid (fun (W : World) (k : Kept w W) => rcls6_c t v s W (tab_kept h k))
 have HE := Lib.hid (isT_or t s)
 obtain ⟨a, c, rfl, _⟩ := h
 generalize Tab.isT t s = y at HE ⊢
 generalize Tab.isC t s = z at HC HE
 cases hb : Wrd.base s with
 | true =>
  rw [hb] at HB HE
  obtain rfl : y = true := HE.out
  clear hb
  go_enter Tryz.func44, Tryz.ntmps44
  go_wp2_with fail
  refine HB.out.mono ?_
  rintro e w1 ⟨rfl, k1⟩
  go_wp2_with fail
  go_ret
  exact ⟨rfl, k1⟩
 | false =>
  rw [hb] at HB HE
  clear hb
  by_cases hd : s = ⟨#[63]⟩
  ·have hq : (s.toList == ([63] : List UInt8)) = true := by have := beq_yes hd; rwa [show (⟨#[63]⟩ : ByteArray).toList = [63] by kernel_rfl] at this
   obtain rfl : y = true := by have := HE.out; rw [decide_eq_true hd] at this; exact this
   clear hd
   go_enter Tryz.func44, Tryz.ntmps44
   go_wp2_with fail
   refine HB.out.mono ?_
   rintro e w1 ⟨rfl, k1⟩
   go_wp2_with fail
   go_ret
   exact ⟨rfl, k1⟩
  ·have hq : (s.toList == ([63] : List UInt8)) = false := by have := beq_no hd; rwa [show (⟨#[63]⟩ : ByteArray).toList = [63] by kernel_rfl] at this
   obtain rfl : y = z := by have := HE.out; rw [decide_eq_false hd] at this; exact this
   clear hd
   go_enter Tryz.func44, Tryz.ntmps44
   go_wp2_with fail
   refine HB.out.mono ?_
   rintro e w1 ⟨rfl, k1⟩
   have HK := Lib.hid k1
   clear k1
   go_wp2_with fail
   refine (HC.out _ HK.out).mono ?_
   rintro e w2 ⟨rfl, rfl⟩
   go_wp2_with fail
   go_ret
   exact ⟨rfl, HK.out⟩
theorem cls_kind {s : ByteArray} (h : Wrd.cls s = true) : Wrd.kind s = 3 := by
 have hb : Wrd.base s = false := by
  cases e : Wrd.base s with
  | false => rfl
  | true =>
   unfold Wrd.base Wrd.has Wrd.bs at e
   simp at e
   rcases e with e | e | e | e | e <;> subst e <;> exact absurd h (by decide +kernel)
 have hd : ¬ s = ⟨#[63]⟩ := by
  intro e
  subst e
  exact absurd h (by decide +kernel)
 unfold Wrd.kind
 rw [hb, if_neg (by simp), if_neg hd, if_pos h]
theorem chkType_eq (t : List Tab.C) (s : ByteArray) : Tab.chkType t s = if Wrd.typ s then (if Wrd.cls s then (if (Tab.ix Tab.C.name t s).isSome then 0 else 6) else 0) else 5 := by
 unfold Tab.chkType Wrd.typ
 cases hc : Wrd.cls s with
 | true =>
  rw [cls_kind hc]
  simp
 | false =>
  by_cases h0 : Wrd.kind s = 0
  ·rw [if_pos h0, h0]; simp
  ·have h3 : ¬ Wrd.kind s = 3 := by
    intro e
    unfold Wrd.kind at e
    split at e
    ·cases e
    ·split at e
     ·cases e
     ·rw [hc] at e; simp at e
   rw [if_neg h0, if_neg h3, if_pos (by simpa using h0), if_neg (by simp)]
set_option maxHeartbeats 4000000 in
theorem rtyped_c (t : List Tab.C) (v : Value) (s : ByteArray) (w : World) (h : TabAt w v t) (hs : s.size ≤ 9223372036854775807) :
  Calls Tryz.prog 151 #[v, .string s] w fun e w' => e = .returned (.int .i64 (Tab.chkType t s)) ∧ Kept w w' := by
 have HF := Lib.hid (rfind_c t v s w h)
 unfold FindPost at HF
 have HT := Lib.hid (typeR_c s w hs)
 have HC := Lib.hid (fun W => classR_c s W hs)
 have HE := Lib.hid (chkType_eq t s)
 generalize Tab.chkType t s = ans at HE ⊢
 generalize (Tab.ix Tab.C.name t s).isSome = y at HF HE
 generalize Tab.num (Tab.ix Tab.C.name t s) = n at HF
 generalize Wrd.typ s = ty at HT HE
 generalize Wrd.cls s = cl at HC HE
 obtain ⟨a, c, rfl, _⟩ := h
 cases ty with
 | false =>
  obtain rfl : ans = 5 := HE.out
  go_enter Tryz.func151, Tryz.ntmps151
  go_wp2_with fail
  refine HF.out.mono ?_
  rintro e w1 ⟨rfl, hw1⟩
  subst hw1
  go_wp2_with fail
  refine HT.out.mono ?_
  rintro e w2 ⟨rfl, k2⟩
  go_wp2_with fail
  go_ret
  exact ⟨rfl, k2⟩
 | true =>
  cases cl with
  | false =>
   obtain rfl : ans = 0 := HE.out
   go_enter Tryz.func151, Tryz.ntmps151
   go_wp2_with fail
   refine HF.out.mono ?_
   rintro e w1 ⟨rfl, hw1⟩
   subst hw1
   go_wp2_with fail
   refine HT.out.mono ?_
   rintro e w2 ⟨rfl, k2⟩
   go_wp2_with fail
   refine (HC.out _).mono ?_
   rintro e w3 ⟨rfl, rfl⟩
   go_wp2_with fail
   go_ret
   exact ⟨rfl, k2⟩
  | true =>
   cases y with
   | false =>
    obtain rfl : ans = 6 := HE.out
    go_enter Tryz.func151, Tryz.ntmps151
    go_wp2_with fail
    refine HF.out.mono ?_
    rintro e w1 ⟨rfl, hw1⟩
    subst hw1
    go_wp2_with fail
    refine HT.out.mono ?_
    rintro e w2 ⟨rfl, k2⟩
    go_wp2_with fail
    refine (HC.out _).mono ?_
    rintro e w3 ⟨rfl, rfl⟩
    go_wp2_with fail
    go_ret
    exact ⟨rfl, k2⟩
   | true =>
    obtain rfl : ans = 0 := HE.out
    go_enter Tryz.func151, Tryz.ntmps151
    go_wp2_with fail
    refine HF.out.mono ?_
    rintro e w1 ⟨rfl, hw1⟩
    subst hw1
    go_wp2_with fail
    refine HT.out.mono ?_
    rintro e w2 ⟨rfl, k2⟩
    go_wp2_with fail
    refine (HC.out _).mono ?_
    rintro e w3 ⟨rfl, rfl⟩
    go_wp2_with fail
    go_ret
    exact ⟨rfl, k2⟩
end Go.Proofs.YtjdkegfckkbpeaaGreatDoor
