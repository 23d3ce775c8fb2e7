/- Contracts of reals and of the document's answers, function by function. Each stands for words below 2^64 in whatever world; the world has afterwards at most new blocks and draws. -/
import Derived.Test.YtcaailiijmjdlaaGreatDoorRows
import Derived.Test.YtcaailiijmjdlaaGreatDoorFlb
import Derived.WalkKit
import Derived.ProofKit
import Derived.WalkLawsBesides
import Derived.WalkSpells
import Derived.Outline
import Derived.Lib.Hide
set_option linter.unusedSimpArgs false
set_option linter.unusedVariables false
namespace Go.Proofs.YtcaailiijmjdlaaGreatDoor
open Go.ChangeShapes Go.WideShapes Go.ChangeAt Go.RowKit Flo

theorem grown_trans {a b c : World} (h : Grown a b) (k : Grown b c) : Grown a c :=
  ⟨World.keptBut_trans h.1 (World.keptBut_mono (fun _ f => f.elim) k.1), fun x => (k.2.1 x).trans (h.2.1 x), Nat.le_trans h.2.2 k.2.2⟩

theorem ret_u64 {a b : Nat} (h : a = b) : Ending.returned (.int .u64 (a : Int)) = .returned (.int .u64 (b : Int)) := by rw [h]
theorem ret_bool {a b : Bool} (h : a = b) : Ending.returned (.bool a) = .returned (.bool b) := by rw [h]

theorem k_from (a : Nat) (w : World) : (callFunc 71 #[.int .u64 (a : Int)]).run Tryz.prog w = .ok (.value (.float .f64 a)) w := by
  rw [run_callFunc_extern (e := Extern.MathFloatBits.float64frombits) Tryz.func71 (by kernel_rfl) (by kernel_rfl) (by kernel_rfl) (by kernel_rfl)]
  rfl
theorem k_bits (a : Nat) (w : World) : (callFunc 70 #[.float .f64 a]).run Tryz.prog w = .ok (.value (.int .u64 (a : Int))) w := by
  rw [run_callFunc_extern (e := Extern.MathFloatBits.float64bits) Tryz.func70 (by kernel_rfl) (by kernel_rfl) (by kernel_rfl) (by kernel_rfl)]
  rfl

theorem isNaN_c (a : Nat) (h : a < 18446744073709551616) (w : World) : Calls Tryz.prog 115 #[.int .u64 a] w fun e w' => e = .returned (.bool (isN a)) ∧ w = w' := by
  go_enter Tryz.func115, Tryz.ntmps115
  go_wp2
  go_ret
  exact ⟨ret_bool (by rw [andNot_low a h]; unfold isN; simp; omega), rfl⟩

theorem canR_c (a : Nat) (h : a < 18446744073709551616) (w : World) : Calls Tryz.prog 69 #[.int .u64 a] w fun e w' => e = .returned (.int .u64 (cn a)) ∧ w = w' := by
  cases hn : isN a
  · go_enter Tryz.func69, Tryz.ntmps69
    go_wp2_with (go_at_call 115; refine (isNaN_c _ h _).mono ?_; rintro e w' ⟨rfl, rfl⟩)
    go_ret
    exact ⟨ret_u64 (cn_not hn).symm, rfl⟩
  · go_enter Tryz.func69, Tryz.ntmps69
    go_wp2_with (go_at_call 115; refine (isNaN_c _ h _).mono ?_; rintro e w' ⟨rfl, rfl⟩)
    go_ret
    exact ⟨ret_u64 (cn_yes hn).symm, rfl⟩

theorem canS_c (a : Nat) (h : a < 18446744073709551616) (w : World) : Calls Tryz.prog 106 #[.int .u64 a] w fun e w' => e = .returned (.int .u64 (cn a)) ∧ w = w' := by
  go_enter Tryz.func106, Tryz.ntmps106
  go_wp2
  · go_ret
    refine ⟨ret_u64 (cn_yes ?_).symm, rfl⟩
    have hb : 9218868437227405312 < bits BinOp.and IntKind.u64 (↑a) 9223372036854775807 := by assumption
    rw [and_low a h] at hb
    unfold isN; rw [decide_eq_true_eq]; omega
  · go_ret
    refine ⟨ret_u64 (cn_not ?_).symm, rfl⟩
    have hb : bits BinOp.and IntKind.u64 (↑a) 9223372036854775807 ≤ 9218868437227405312 := by assumption
    rw [and_low a h] at hb
    unfold isN; rw [decide_eq_false_iff_not]; omega

theorem float_c (a : Nat) (w : World) : Calls Tryz.prog 103 #[.int .u64 a] w fun e w' => e = .returned (.float .f64 a) ∧ w = w' := by
  have hk := k_from
  go_enter Tryz.func103, Tryz.ntmps103
  go_wp2
  go_ret
  exact ⟨rfl, rfl⟩

theorem bits_c (a : Nat) (h : a < 18446744073709551616) (w : World) : Calls Tryz.prog 104 #[.float .f64 a] w fun e w' => e = .returned (.int .u64 (cn a)) ∧ w = w' := by
  have hk := k_bits
  go_enter Tryz.func104, Tryz.ntmps104
  go_wp2_with (go_at_call 106; refine (canS_c _ h _).mono ?_; rintro e w' ⟨rfl, rfl⟩)
  go_ret
  exact ⟨rfl, rfl⟩

theorem negR_c (a : Nat) (h : a < 18446744073709551616) (w : World) : Calls Tryz.prog 141 #[.int .u64 a] w fun e w' => e = .returned (.int .u64 (ng a)) ∧ w = w' := by
  cases hn : isN a
  · go_enter Tryz.func141, Tryz.ntmps141
    go_wp2_with (go_at_call 115; refine (isNaN_c _ h _).mono ?_; rintro e w' ⟨rfl, rfl⟩)
    go_ret
    refine ⟨?_, rfl⟩
    rw [xor_flip a h]
    exact ret_u64 (cn_not (by rw [isN_flip]; exact hn)).symm
  · go_enter Tryz.func141, Tryz.ntmps141
    go_wp2_with (go_at_call 115; refine (isNaN_c _ h _).mono ?_; rintro e w' ⟨rfl, rfl⟩)
    go_ret
    exact ⟨ret_u64 (cn_yes (by rw [isN_flip]; exact hn)).symm, rfl⟩

theorem negS_c (a : Nat) (h : a < 18446744073709551616) (w : World) : Calls Tryz.prog 62 #[.int .u64 a] w fun e w' => e = .returned (.int .u64 (ng a)) ∧ w = w' := by
  go_enter Tryz.func62, Tryz.ntmps62
  go_wp2_with (go_at_call 106; rw [xor_flip a h]; refine (canS_c _ (flip_lt h) _).mono ?_; rintro e w' ⟨rfl, rfl⟩)
  go_ret
  exact ⟨rfl, rfl⟩

theorem lessS_c (a b : Nat) (w : World) : Calls Tryz.prog 57 #[.int .u64 a, .int .u64 b] w fun e w' => e = .returned (.bool (less a b)) ∧ w = w' := by
  go_enter Tryz.func57, Tryz.ntmps57
  go_wp2_with (go_at_call 103; refine (float_c _ _).mono ?_; rintro e w' ⟨rfl, rfl⟩)
  go_ret
  exact ⟨ret_bool (order_less a b), rfl⟩

theorem equalS_c (a b : Nat) (w : World) : Calls Tryz.prog 58 #[.int .u64 a, .int .u64 b] w fun e w' => e = .returned (.bool (equal a b)) ∧ w = w' := by
  go_enter Tryz.func58, Tryz.ntmps58
  go_wp2_with (go_at_call 103; refine (float_c _ _).mono ?_; rintro e w' ⟨rfl, rfl⟩)
  go_ret
  exact ⟨ret_bool (order_equal a b), rfl⟩

/-- Which operation a text is. -/
def opOf (l : List UInt8) : Option BinOp := if l == [43] then some .add else if l == [45] then some .sub else if l == [42] then some .mul else if l == [47] then some .quo else none
theorem opOf_four {l : List UInt8} {o : BinOp} (h : opOf l = some o) : Four o := by
  unfold opOf at h
  repeat' split at h
  all_goals first | (cases h; done) | (cases h; simp [Four])

theorem opOf_none {l : List UInt8} (h : opOf l = none) : (l == [43]) = false ∧ (l == [45]) = false ∧ (l == [42]) = false ∧ (l == [47]) = false := by
  unfold opOf at h
  repeat' split at h
  all_goals first | (cases h; done) | simp_all

theorem doS_op (s : ByteArray) (a b : Nat) (w : World) (o : BinOp) (hs : opOf s.toList = some o) : Calls Tryz.prog 59 #[.string s, .int .u64 a, .int .u64 b] w fun e w' =>
    e = .returned (.tuple #[.int .u64 (doN o a b), .int .i64 0]) ∧ Grown w w' := by
  obtain ⟨r, w1, hr, hl, hc, hg⟩ := run_fl Tryz.prog o (opOf_four hs) 88 a b w
  unfold opOf at hs
  by_cases c1 : (s.toList == [43]) = true
  · rw [if_pos c1] at hs
    cases hs
    go_enter Tryz.func59, Tryz.ntmps59
    go_wp2_with (first | (go_at_call 103; refine (float_c _ _).mono ?_; rintro e w' ⟨rfl, rfl⟩) | (go_at_call 104; refine (bits_c _ hl _).mono ?_; rintro e w' ⟨rfl, rfl⟩))
    go_ret2
    exact ⟨rfl, hg⟩
  rw [if_neg c1] at hs
  rw [Bool.not_eq_true] at c1
  by_cases c2 : (s.toList == [45]) = true
  · rw [if_pos c2] at hs
    cases hs
    go_enter Tryz.func59, Tryz.ntmps59
    go_wp2_with (first | (go_at_call 103; refine (float_c _ _).mono ?_; rintro e w' ⟨rfl, rfl⟩) | (go_at_call 104; refine (bits_c _ hl _).mono ?_; rintro e w' ⟨rfl, rfl⟩))
    go_ret2
    exact ⟨rfl, hg⟩
  rw [if_neg c2] at hs
  rw [Bool.not_eq_true] at c2
  by_cases c3 : (s.toList == [42]) = true
  · rw [if_pos c3] at hs
    cases hs
    go_enter Tryz.func59, Tryz.ntmps59
    go_wp2_with (first | (go_at_call 103; refine (float_c _ _).mono ?_; rintro e w' ⟨rfl, rfl⟩) | (go_at_call 104; refine (bits_c _ hl _).mono ?_; rintro e w' ⟨rfl, rfl⟩))
    go_ret2
    exact ⟨rfl, hg⟩
  rw [if_neg c3] at hs
  rw [Bool.not_eq_true] at c3
  by_cases c4 : (s.toList == [47]) = true
  · rw [if_pos c4] at hs
    cases hs
    go_enter Tryz.func59, Tryz.ntmps59
    go_wp2_with (first | (go_at_call 103; refine (float_c _ _).mono ?_; rintro e w' ⟨rfl, rfl⟩) | (go_at_call 104; refine (bits_c _ hl _).mono ?_; rintro e w' ⟨rfl, rfl⟩))
    go_ret2
    exact ⟨rfl, hg⟩
  rw [if_neg c4] at hs
  rw [Bool.not_eq_true] at c4
  cases hs

theorem doS_no (s : ByteArray) (a b : Nat) (w : World) (hs : opOf s.toList = none) : Calls Tryz.prog 59 #[.string s, .int .u64 a, .int .u64 b] w fun e w' =>
    e = .returned (.tuple #[.int .u64 0, .int .i64 2]) ∧ Grown w w' := by
  obtain ⟨c1, c2, c3, c4⟩ := opOf_none hs
  clear hs
  go_enter Tryz.func59, Tryz.ntmps59
  go_wp2_with (first | (go_at_call 103; refine (float_c _ _).mono ?_; rintro e w' ⟨rfl, rfl⟩))
  go_ret2
  exact ⟨rfl, Grown.refl _⟩

theorem lit_c (o : BinOp) (k : Nat) (a b : Nat) (w : World) (hk : (o = .add ∧ k = 111) ∨ (o = .sub ∧ k = 112) ∨ (o = .mul ∧ k = 113) ∨ (o = .quo ∧ k = 114)) :
    Calls Tryz.prog k #[.float .f64 a, .float .f64 b] w fun e w' => ∃ r, e = .returned (.float .f64 r) ∧ r < 18446744073709551616 ∧ cn r = doN o a b ∧ Grown w w' := by
  have ho : Four o := by rcases hk with h | h | h | h <;> simp [Four, h.1]
  obtain ⟨r, w1, hr, hl, hc, hg⟩ := run_fl Tryz.prog o ho 88 a b w
  rcases hk with ⟨rfl, rfl⟩ | ⟨rfl, rfl⟩ | ⟨rfl, rfl⟩ | ⟨rfl, rfl⟩
  · go_enter Tryz.func111, Tryz.ntmps111
    go_wp2
    go_ret
    exact ⟨r, rfl, hl, hc, hg⟩
  · go_enter Tryz.func112, Tryz.ntmps112
    go_wp2
    go_ret
    exact ⟨r, rfl, hl, hc, hg⟩
  · go_enter Tryz.func113, Tryz.ntmps113
    go_wp2
    go_ret
    exact ⟨r, rfl, hl, hc, hg⟩
  · go_enter Tryz.func114, Tryz.ntmps114
    go_wp2
    go_ret
    exact ⟨r, rfl, hl, hc, hg⟩

theorem nil_no (k : Nat) (w : World) : (binOp .eql 85 (.func (.func k) #[] #[]) .nilFunc).run Tryz.prog w = .ok (.bool false) w := by kernel_rfl
theorem nil_yes (w : World) : (binOp .eql 85 .nilFunc .nilFunc).run Tryz.prog w = .ok (.bool true) w := by kernel_rfl

/-- Which func literal an operation is. -/
def litOf (o : BinOp) : Nat := match o with
  | .add => 111
  | .sub => 112
  | .mul => 113
  | _ => 114

theorem oper_op (s : ByteArray) (w : World) (o : BinOp) (hs : opOf s.toList = some o) : Calls Tryz.prog 68 #[.string s] w fun e w' => e = .returned (.func (.func (litOf o)) #[] #[]) ∧ w = w' := by
  unfold opOf at hs
  by_cases c1 : (s.toList == [43]) = true
  · rw [if_pos c1] at hs
    cases hs
    go_enter Tryz.func68, Tryz.ntmps68
    go_wp2
    go_ret
    exact ⟨rfl, rfl⟩
  rw [if_neg c1] at hs
  rw [Bool.not_eq_true] at c1
  by_cases c2 : (s.toList == [45]) = true
  · rw [if_pos c2] at hs
    cases hs
    go_enter Tryz.func68, Tryz.ntmps68
    go_wp2
    go_ret
    exact ⟨rfl, rfl⟩
  rw [if_neg c2] at hs
  rw [Bool.not_eq_true] at c2
  by_cases c3 : (s.toList == [42]) = true
  · rw [if_pos c3] at hs
    cases hs
    go_enter Tryz.func68, Tryz.ntmps68
    go_wp2
    go_ret
    exact ⟨rfl, rfl⟩
  rw [if_neg c3] at hs
  rw [Bool.not_eq_true] at c3
  by_cases c4 : (s.toList == [47]) = true
  · rw [if_pos c4] at hs
    cases hs
    go_enter Tryz.func68, Tryz.ntmps68
    go_wp2
    go_ret
    exact ⟨rfl, rfl⟩
  rw [if_neg c4] at hs
  rw [Bool.not_eq_true] at c4
  cases hs

theorem oper_no (s : ByteArray) (w : World) (hs : opOf s.toList = none) : Calls Tryz.prog 68 #[.string s] w fun e w' => e = .returned .nilFunc ∧ w = w' := by
  obtain ⟨c1, c2, c3, c4⟩ := opOf_none hs
  clear hs
  go_enter Tryz.func68, Tryz.ntmps68
  go_wp2
  go_ret
  exact ⟨rfl, rfl⟩

theorem doR_op (s : ByteArray) (a b : Nat) (w : World) (o : BinOp) (hs : opOf s.toList = some o) : Calls Tryz.prog 39 #[.string s, .int .u64 a, .int .u64 b] w fun e w' =>
    e = .returned (.tuple #[.int .u64 (doN o a b), .int .i64 0]) ∧ Grown w w' := by
  have hf := k_from
  have hb := k_bits
  have hn := nil_no
  rcases opOf_four hs with rfl | rfl | rfl | rfl
  · have ho : Calls Tryz.prog 68 #[.string s] w fun e w' => e = .returned (.func (.func 111) #[] #[]) ∧ w = w' := oper_op s w .add hs
    have HO := Lib.hid ho
    clear hs ho
    go_enter Tryz.func39, Tryz.ntmps39
    go_wp2_with (first | (go_at_call 68; refine HO.out.mono ?_; rintro e w' ⟨rfl, rfl⟩) | (go_at_call 111; refine (lit_c .add _ _ _ _ (Or.inl ⟨rfl, rfl⟩)).mono ?_; rintro e w1 ⟨r, rfl, hl, hc, hg⟩) | (go_at_call 69; refine (canR_c _ (by assumption) _).mono ?_; rintro e w' ⟨rfl, rfl⟩))
    go_ret2
    exact ⟨rfl, by assumption⟩
  · have ho : Calls Tryz.prog 68 #[.string s] w fun e w' => e = .returned (.func (.func 112) #[] #[]) ∧ w = w' := oper_op s w .sub hs
    have HO := Lib.hid ho
    clear hs ho
    go_enter Tryz.func39, Tryz.ntmps39
    go_wp2_with (first | (go_at_call 68; refine HO.out.mono ?_; rintro e w' ⟨rfl, rfl⟩) | (go_at_call 112; refine (lit_c .sub _ _ _ _ (Or.inr (Or.inl ⟨rfl, rfl⟩))).mono ?_; rintro e w1 ⟨r, rfl, hl, hc, hg⟩) | (go_at_call 69; refine (canR_c _ (by assumption) _).mono ?_; rintro e w' ⟨rfl, rfl⟩))
    go_ret2
    exact ⟨rfl, by assumption⟩
  · have ho : Calls Tryz.prog 68 #[.string s] w fun e w' => e = .returned (.func (.func 113) #[] #[]) ∧ w = w' := oper_op s w .mul hs
    have HO := Lib.hid ho
    clear hs ho
    go_enter Tryz.func39, Tryz.ntmps39
    go_wp2_with (first | (go_at_call 68; refine HO.out.mono ?_; rintro e w' ⟨rfl, rfl⟩) | (go_at_call 113; refine (lit_c .mul _ _ _ _ (Or.inr (Or.inr (Or.inl ⟨rfl, rfl⟩)))).mono ?_; rintro e w1 ⟨r, rfl, hl, hc, hg⟩) | (go_at_call 69; refine (canR_c _ (by assumption) _).mono ?_; rintro e w' ⟨rfl, rfl⟩))
    go_ret2
    exact ⟨rfl, by assumption⟩
  · have ho : Calls Tryz.prog 68 #[.string s] w fun e w' => e = .returned (.func (.func 114) #[] #[]) ∧ w = w' := oper_op s w .quo hs
    have HO := Lib.hid ho
    clear hs ho
    go_enter Tryz.func39, Tryz.ntmps39
    go_wp2_with (first | (go_at_call 68; refine HO.out.mono ?_; rintro e w' ⟨rfl, rfl⟩) | (go_at_call 114; refine (lit_c .quo _ _ _ _ (Or.inr (Or.inr (Or.inr ⟨rfl, rfl⟩)))).mono ?_; rintro e w1 ⟨r, rfl, hl, hc, hg⟩) | (go_at_call 69; refine (canR_c _ (by assumption) _).mono ?_; rintro e w' ⟨rfl, rfl⟩))
    go_ret2
    exact ⟨rfl, by assumption⟩

theorem doR_no (s : ByteArray) (a b : Nat) (w : World) (hs : opOf s.toList = none) : Calls Tryz.prog 39 #[.string s, .int .u64 a, .int .u64 b] w fun e w' =>
    e = .returned (.tuple #[.int .u64 0, .int .i64 2]) ∧ Grown w w' := by
  have hn := nil_yes
  have HO := Lib.hid (oper_no s w hs)
  clear hs
  go_enter Tryz.func39, Tryz.ntmps39
  go_wp2_with (first | (go_at_call 68; refine HO.out.mono ?_; rintro e w' ⟨rfl, rfl⟩))
  go_ret2
  exact ⟨rfl, Grown.refl _⟩

theorem ofInt_c (n : Int) (w : World) : Calls Tryz.prog 142 #[.int .i64 n] w fun e w' => e = .returned (.int .u64 (floatOfInt .f64 n : Nat)) ∧ w = w' := by
  have hk := k_bits
  go_enter Tryz.func142, Tryz.ntmps142
  go_wp2
  go_ret
  exact ⟨rfl, rfl⟩

end Go.Proofs.YtcaailiijmjdlaaGreatDoor
