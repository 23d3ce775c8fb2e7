/- The document's answers for words: Name, Class, Base, Key, Kind, Type, Tag and OfTag. What was in the world stays as it was. -/
import Derived.Test.YthooiofaicdhgaaGreatDoorQRfn
set_option linter.unusedSimpArgs false
set_option linter.unusedVariables false
namespace Go.Proofs.YthooiofaicdhgaaGreatDoor
open Go.ChangeShapes Go.WideShapes Go.ChangeAt Go.RowKit
theorem len_bs : Wrd.bs.length = 5 := rfl
theorem len_ws' : Wrd.ws.length = 24 := rfl
theorem baseR_c (s : ByteArray) (w : World) : Calls Tryz.prog 130 #[.string s] w fun e w' => e = .returned (.bool (Wrd.base s)) ∧ Kept w w' := by
 go_enter Tryz.func130, Tryz.ntmps130
 go_wp2_with fail
 refine (basesR_c _).mono ?_
 rintro e w1 ⟨v, rfl, ⟨g, c, rfl, hg, ht⟩, k1⟩
 go_wp2_with fail
 refine (in_c g c Wrd.bs s _ (by rw [len_bs]; omega) ht).mono ?_
 rintro e w2 ⟨rfl, rfl⟩
 go_wp2_with fail
 go_ret
 exact ⟨rfl, k1⟩
theorem kd0 {c : UInt8} : (Wrd.kd c == 0) = Wrd.smB c.toNat := by
 unfold Wrd.kd
 cases Wrd.smB c.toNat <;> cases Wrd.caB c.toNat <;> cases Wrd.diB c.toNat <;> rfl
theorem kd1 {c : UInt8} : (Wrd.kd c == 1) = Wrd.caB c.toNat := by
 unfold Wrd.kd
 have h : Wrd.caB c.toNat = true → Wrd.smB c.toNat = false := by
  unfold Wrd.caB Wrd.smB
  simp
  omega
 cases h1 : Wrd.caB c.toNat
 ·cases Wrd.smB c.toNat <;> cases Wrd.diB c.toNat <;> rfl
 ·rw [h h1]; rfl
theorem classR_c (s : ByteArray) (w : World) (hs : s.size ≤ 9223372036854775807) : Calls Tryz.prog 176 #[.string s] w fun e w' => e = .returned (.bool (Wrd.cls s)) ∧ w = w' := by
 unfold Wrd.cls
 rw [spelt_wrd]
 have H1 := Lib.hid (fun w => wordR_c s w hs)
 cases hw : wrd s with
 | false =>
  rw [hw] at H1
  clear hw
  go_enter Tryz.func176, Tryz.ntmps176
  go_wp2_with fail
  refine (H1.out _).mono ?_
  rintro e w1 ⟨rfl, rfl⟩
  go_wp2_with fail
  go_ret
  exact ⟨rfl, rfl⟩
 | true =>
  have hp := wrd_pos hw
  rw [hw] at H1
  rw [Wrd.head_at hp, kd1]
  have H2 := Lib.hid (fun w => greatR_v (s[0]'hp).toNat _ w rfl)
  generalize Wrd.caB (s[0]'hp).toNat = b at *
  clear hw
  go_enter Tryz.func176, Tryz.ntmps176
  go_wp2_with fail
  refine (H1.out _).mono ?_
  rintro e w1 ⟨rfl, rfl⟩
  go_wp2_with fail
  refine (H2.out _).mono ?_
  rintro e w1 ⟨rfl, rfl⟩
  go_wp2_with fail
  go_ret
  exact ⟨by cases b <;> rfl, rfl⟩
theorem nameR_c (s : ByteArray) (w : World) (hs : s.size ≤ 9223372036854775807) : Calls Tryz.prog 213 #[.string s] w fun e w' => e = .returned (.bool (Wrd.name s)) ∧ Kept w w' := by
 unfold Wrd.name
 rw [spelt_wrd]
 have H1 := Lib.hid (fun w => wordR_c s w hs)
 cases hw : wrd s with
 | false =>
  rw [hw] at H1
  clear hw
  go_enter Tryz.func213, Tryz.ntmps213
  go_wp2_with fail
  refine (H1.out _).mono ?_
  rintro e w1 ⟨rfl, rfl⟩
  go_wp2_with fail
  go_ret
  exact ⟨rfl, Kept.refl _⟩
 | true =>
  have hp := wrd_pos hw
  rw [hw] at H1
  rw [Wrd.head_at hp, kd0]
  have H2 := Lib.hid (fun w => smallR_v (s[0]'hp).toNat _ w rfl)
  have H3 := Lib.hid (fun g c w ht => in_c g c Wrd.ws s w (by rw [len_ws']; omega) ht)
  generalize Wrd.smB (s[0]'hp).toNat = b at *
  unfold Wrd.key
  generalize Wrd.has Wrd.ws s = k at *
  clear hw
  cases b
  ·go_enter Tryz.func213, Tryz.ntmps213
   go_wp2_with fail
   refine (H1.out _).mono ?_
   rintro e w1 ⟨rfl, rfl⟩
   go_wp2_with fail
   refine (H2.out _).mono ?_
   rintro e w1 ⟨rfl, rfl⟩
   go_wp2_with fail
   go_ret
   exact ⟨rfl, Kept.refl _⟩
  ·go_enter Tryz.func213, Tryz.ntmps213
   go_wp2_with fail
   refine (H1.out _).mono ?_
   rintro e w1 ⟨rfl, rfl⟩
   go_wp2_with fail
   refine (H2.out _).mono ?_
   rintro e w1 ⟨rfl, rfl⟩
   go_wp2_with fail
   refine (reservedR_c _).mono ?_
   rintro e w1 ⟨v, rfl, ⟨g, c, rfl, hg, ht⟩, k1⟩
   go_wp2_with fail
   refine (H3.out g c _ ht).mono ?_
   rintro e w2 ⟨rfl, rfl⟩
   go_wp2_with fail
   go_ret
   exact ⟨by cases k <;> rfl, k1⟩
theorem kindR_c (s : ByteArray) (w : World) (hs : s.size ≤ 9223372036854775807) : Calls Tryz.prog 242 #[.string s] w fun e w' => e = .returned (.int .i64 (Wrd.kind s)) ∧ Kept w w' := by
 have H1 := Lib.hid (fun g c w ht => in_c g c Wrd.bs s w (by rw [len_bs]; omega) ht)
 have H2 := Lib.hid (fun w => classR_c s w hs)
 unfold Wrd.kind Wrd.base
 generalize Wrd.has Wrd.bs s = a at *
 generalize Wrd.cls s = c at *
 clear hs
 cases a
 ·by_cases hq : s = ⟨#[63]⟩
  ·have hb : (s.toList == [63]) = true := lit_yes hq
   rw [if_pos hq]
   clear hq
   go_enter Tryz.func242, Tryz.ntmps242
   go_wp2_with fail
   refine (basesR_c _).mono ?_
   rintro e w1 ⟨v, rfl, ⟨g, c, rfl, hg, ht⟩, k1⟩
   go_wp2_with fail
   refine (H1.out _ _ _ ht).mono ?_
   rintro e w2 ⟨rfl, rfl⟩
   go_wp2_with fail
   go_ret
   exact ⟨rfl, k1⟩
  ·have hb : (s.toList == [63]) = false := lit_no hq
   rw [if_neg hq]
   clear hq
   cases c
   all_goals
    go_enter Tryz.func242, Tryz.ntmps242
    go_wp2_with fail
    refine (basesR_c _).mono ?_
    rintro e w1 ⟨v, rfl, ⟨g, c, rfl, hg, ht⟩, k1⟩
    go_wp2_with fail
    refine (H1.out _ _ _ ht).mono ?_
    rintro e w2 ⟨rfl, rfl⟩
    go_wp2_with fail
    refine (H2.out _).mono ?_
    rintro e w2 ⟨rfl, rfl⟩
    go_wp2_with fail
    go_ret
    exact ⟨rfl, k1⟩
 ·go_enter Tryz.func242, Tryz.ntmps242
  go_wp2_with fail
  refine (basesR_c _).mono ?_
  rintro e w1 ⟨v, rfl, ⟨g, c, rfl, hg, ht⟩, k1⟩
  go_wp2_with fail
  refine (H1.out _ _ _ ht).mono ?_
  rintro e w2 ⟨rfl, rfl⟩
  go_wp2_with fail
  go_ret
  exact ⟨rfl, k1⟩
theorem kind_cases (s : ByteArray) : Wrd.kind s = 0 ∨ Wrd.kind s = 1 ∨ Wrd.kind s = 2 ∨ Wrd.kind s = 3 := by
 unfold Wrd.kind
 split
 ·simp
 ·split
  ·simp
  ·split <;> simp
theorem typeR_c (s : ByteArray) (w : World) (hs : s.size ≤ 9223372036854775807) : Calls Tryz.prog 214 #[.string s] w fun e w' => e = .returned (.bool (Wrd.typ s)) ∧ Kept w w' := by
 have H1 := Lib.hid (kindR_c s w hs)
 have hk := kind_cases s
 unfold Wrd.typ
 generalize Wrd.kind s = n at *
 rcases hk with rfl | rfl | rfl | rfl
 all_goals
  go_enter Tryz.func214, Tryz.ntmps214
  go_wp2_with fail
  refine (H1.out).mono ?_
  rintro e w1 ⟨rfl, k1⟩
  go_wp2_with fail
  go_ret
  exact ⟨rfl, k1⟩
end Go.Proofs.YthooiofaicdhgaaGreatDoor
