/- Contracts of reals and of the document's answers, function by function. Each stands for words below 2^64 in whatever world; the world has afterwards at most new blocks and draws. -/
import Derived.Test.YtcaailiijmjdlaaDoorRows
import Derived.Test.YtcaailiijmjdlaaDoorFlb
import Derived.WalkKit
import Derived.ProofKit
import Derived.WalkLawsBesides
import Derived.WalkSpells
import Derived.Outline
import Derived.Lib.Hide
set_option linter.unusedSimpArgs false
set_option linter.unusedVariables false
namespace Go.Proofs.YtcaailiijmjdlaaDoor
open Go.ChangeShapes Go.WideShapes Go.ChangeAt Go.RowKit Flo

theorem grown_trans {a b c : World} (h : Grown a b) (k : Grown b c) : Grown a c :=
  ⟨World.keptBut_trans h.1 (World.keptBut_mono (fun _ f => f.elim) k.1), fun x => (k.2.1 x).trans (h.2.1 x), Nat.le_trans h.2.2 k.2.2⟩

theorem ret_u64 {a b : Nat} (h : a = b) : Ending.returned (.int .u64 (a : Int)) = .returned (.int .u64 (b : Int)) := by rw [h]
theorem ret_bool {a b : Bool} (h : a = b) : Ending.returned (.bool a) = .returned (.bool b) := by rw [h]

theorem k_from (a : Nat) (w : World) : (callFunc 21 #[.int .u64 (a : Int)]).run Tryd.prog w = .ok (.value (.float .f64 a)) w := by
  rw [run_callFunc_extern (e := Extern.MathFloatBits.float64frombits) Tryd.func21 (by kernel_rfl) (by kernel_rfl) (by kernel_rfl) (by kernel_rfl)]
  rfl
theorem k_bits (a : Nat) (w : World) : (callFunc 56 #[.float .f64 a]).run Tryd.prog w = .ok (.value (.int .u64 (a : Int))) w := by
  rw [run_callFunc_extern (e := Extern.MathFloatBits.float64bits) Tryd.func56 (by kernel_rfl) (by kernel_rfl) (by kernel_rfl) (by kernel_rfl)]
  rfl

theorem isNaN_c (a : Nat) (h : a < 18446744073709551616) (w : World) : Calls Tryd.prog 17 #[.int .u64 a] w fun e w' => e = .returned (.bool (isN a)) ∧ w = w' := by
  go_enter Tryd.func17, Tryd.ntmps17
  go_wp2
  go_ret
  exact ⟨ret_bool (by rw [andNot_low a h]; unfold isN; simp; omega), rfl⟩

theorem canR_c (a : Nat) (h : a < 18446744073709551616) (w : World) : Calls Tryd.prog 9 #[.int .u64 a] w fun e w' => e = .returned (.int .u64 (cn a)) ∧ w = w' := by
  cases hn : isN a
  · go_enter Tryd.func9, Tryd.ntmps9
    go_wp2_with (go_at_call 17; refine (isNaN_c _ h _).mono ?_; rintro e w' ⟨rfl, rfl⟩)
    go_ret
    exact ⟨ret_u64 (cn_not hn).symm, rfl⟩
  · go_enter Tryd.func9, Tryd.ntmps9
    go_wp2_with (go_at_call 17; refine (isNaN_c _ h _).mono ?_; rintro e w' ⟨rfl, rfl⟩)
    go_ret
    exact ⟨ret_u64 (cn_yes hn).symm, rfl⟩

/-- Which operation a text is. -/
def opOf (l : List UInt8) : Option BinOp := if l == [43] then some .add else if l == [45] then some .sub else if l == [42] then some .mul else if l == [47] then some .quo else none
theorem opOf_four {l : List UInt8} {o : BinOp} (h : opOf l = some o) : Four o := by
  unfold opOf at h
  repeat' split at h
  all_goals first | (cases h; done) | (cases h; simp [Four])

theorem opOf_none {l : List UInt8} (h : opOf l = none) : (l == [43]) = false ∧ (l == [45]) = false ∧ (l == [42]) = false ∧ (l == [47]) = false := by
  unfold opOf at h
  repeat' split at h
  all_goals first | (cases h; done) | simp_all

theorem lit_c (o : BinOp) (k : Nat) (a b : Nat) (w : World) (hk : (o = .add ∧ k = 66) ∨ (o = .sub ∧ k = 67) ∨ (o = .mul ∧ k = 68) ∨ (o = .quo ∧ k = 69)) :
    Calls Tryd.prog k #[.float .f64 a, .float .f64 b] w fun e w' => ∃ r, e = .returned (.float .f64 r) ∧ r < 18446744073709551616 ∧ cn r = doN o a b ∧ Grown w w' := by
  have ho : Four o := by rcases hk with h | h | h | h <;> simp [Four, h.1]
  obtain ⟨r, w1, hr, hl, hc, hg⟩ := run_fl Tryd.prog o ho 49 a b w
  rcases hk with ⟨rfl, rfl⟩ | ⟨rfl, rfl⟩ | ⟨rfl, rfl⟩ | ⟨rfl, rfl⟩
  · go_enter Tryd.func66, Tryd.ntmps66
    go_wp2
    go_ret
    exact ⟨r, rfl, hl, hc, hg⟩
  · go_enter Tryd.func67, Tryd.ntmps67
    go_wp2
    go_ret
    exact ⟨r, rfl, hl, hc, hg⟩
  · go_enter Tryd.func68, Tryd.ntmps68
    go_wp2
    go_ret
    exact ⟨r, rfl, hl, hc, hg⟩
  · go_enter Tryd.func69, Tryd.ntmps69
    go_wp2
    go_ret
    exact ⟨r, rfl, hl, hc, hg⟩

theorem nil_no (k : Nat) (w : World) : (binOp .eql 92 (.func (.func k) #[] #[]) .nilFunc).run Tryd.prog w = .ok (.bool false) w := by kernel_rfl
theorem nil_yes (w : World) : (binOp .eql 92 .nilFunc .nilFunc).run Tryd.prog w = .ok (.bool true) w := by kernel_rfl

/-- Which func literal an operation is. -/
def litOf (o : BinOp) : Nat := match o with
  | .add => 66
  | .sub => 67
  | .mul => 68
  | _ => 69

theorem oper_op (s : ByteArray) (w : World) (o : BinOp) (hs : opOf s.toList = some o) : Calls Tryd.prog 55 #[.string s] w fun e w' => e = .returned (.func (.func (litOf o)) #[] #[]) ∧ w = w' := by
  unfold opOf at hs
  by_cases c1 : (s.toList == [43]) = true
  · rw [if_pos c1] at hs
    cases hs
    go_enter Tryd.func55, Tryd.ntmps55
    go_wp2
    go_ret
    exact ⟨rfl, rfl⟩
  rw [if_neg c1] at hs
  rw [Bool.not_eq_true] at c1
  by_cases c2 : (s.toList == [45]) = true
  · rw [if_pos c2] at hs
    cases hs
    go_enter Tryd.func55, Tryd.ntmps55
    go_wp2
    go_ret
    exact ⟨rfl, rfl⟩
  rw [if_neg c2] at hs
  rw [Bool.not_eq_true] at c2
  by_cases c3 : (s.toList == [42]) = true
  · rw [if_pos c3] at hs
    cases hs
    go_enter Tryd.func55, Tryd.ntmps55
    go_wp2
    go_ret
    exact ⟨rfl, rfl⟩
  rw [if_neg c3] at hs
  rw [Bool.not_eq_true] at c3
  by_cases c4 : (s.toList == [47]) = true
  · rw [if_pos c4] at hs
    cases hs
    go_enter Tryd.func55, Tryd.ntmps55
    go_wp2
    go_ret
    exact ⟨rfl, rfl⟩
  rw [if_neg c4] at hs
  rw [Bool.not_eq_true] at c4
  cases hs

theorem oper_no (s : ByteArray) (w : World) (hs : opOf s.toList = none) : Calls Tryd.prog 55 #[.string s] w fun e w' => e = .returned .nilFunc ∧ w = w' := by
  obtain ⟨c1, c2, c3, c4⟩ := opOf_none hs
  clear hs
  go_enter Tryd.func55, Tryd.ntmps55
  go_wp2
  go_ret
  exact ⟨rfl, rfl⟩

theorem doR_op (s : ByteArray) (a b : Nat) (w : World) (o : BinOp) (hs : opOf s.toList = some o) : Calls Tryd.prog 48 #[.string s, .int .u64 a, .int .u64 b] w fun e w' =>
    e = .returned (.tuple #[.int .u64 (doN o a b), .int .i64 0]) ∧ Grown w w' := by
  have hf := k_from
  have hb := k_bits
  have hn := nil_no
  rcases opOf_four hs with rfl | rfl | rfl | rfl
  · have ho : Calls Tryd.prog 55 #[.string s] w fun e w' => e = .returned (.func (.func 66) #[] #[]) ∧ w = w' := oper_op s w .add hs
    have HO := Lib.hid ho
    clear hs ho
    go_enter Tryd.func48, Tryd.ntmps48
    go_wp2_with (first | (go_at_call 55; refine HO.out.mono ?_; rintro e w' ⟨rfl, rfl⟩) | (go_at_call 66; refine (lit_c .add _ _ _ _ (Or.inl ⟨rfl, rfl⟩)).mono ?_; rintro e w1 ⟨r, rfl, hl, hc, hg⟩) | (go_at_call 9; refine (canR_c _ (by assumption) _).mono ?_; rintro e w' ⟨rfl, rfl⟩))
    go_ret2
    exact ⟨rfl, by assumption⟩
  · have ho : Calls Tryd.prog 55 #[.string s] w fun e w' => e = .returned (.func (.func 67) #[] #[]) ∧ w = w' := oper_op s w .sub hs
    have HO := Lib.hid ho
    clear hs ho
    go_enter Tryd.func48, Tryd.ntmps48
    go_wp2_with (first | (go_at_call 55; refine HO.out.mono ?_; rintro e w' ⟨rfl, rfl⟩) | (go_at_call 67; refine (lit_c .sub _ _ _ _ (Or.inr (Or.inl ⟨rfl, rfl⟩))).mono ?_; rintro e w1 ⟨r, rfl, hl, hc, hg⟩) | (go_at_call 9; refine (canR_c _ (by assumption) _).mono ?_; rintro e w' ⟨rfl, rfl⟩))
    go_ret2
    exact ⟨rfl, by assumption⟩
  · have ho : Calls Tryd.prog 55 #[.string s] w fun e w' => e = .returned (.func (.func 68) #[] #[]) ∧ w = w' := oper_op s w .mul hs
    have HO := Lib.hid ho
    clear hs ho
    go_enter Tryd.func48, Tryd.ntmps48
    go_wp2_with (first | (go_at_call 55; refine HO.out.mono ?_; rintro e w' ⟨rfl, rfl⟩) | (go_at_call 68; refine (lit_c .mul _ _ _ _ (Or.inr (Or.inr (Or.inl ⟨rfl, rfl⟩)))).mono ?_; rintro e w1 ⟨r, rfl, hl, hc, hg⟩) | (go_at_call 9; refine (canR_c _ (by assumption) _).mono ?_; rintro e w' ⟨rfl, rfl⟩))
    go_ret2
    exact ⟨rfl, by assumption⟩
  · have ho : Calls Tryd.prog 55 #[.string s] w fun e w' => e = .returned (.func (.func 69) #[] #[]) ∧ w = w' := oper_op s w .quo hs
    have HO := Lib.hid ho
    clear hs ho
    go_enter Tryd.func48, Tryd.ntmps48
    go_wp2_with (first | (go_at_call 55; refine HO.out.mono ?_; rintro e w' ⟨rfl, rfl⟩) | (go_at_call 69; refine (lit_c .quo _ _ _ _ (Or.inr (Or.inr (Or.inr ⟨rfl, rfl⟩)))).mono ?_; rintro e w1 ⟨r, rfl, hl, hc, hg⟩) | (go_at_call 9; refine (canR_c _ (by assumption) _).mono ?_; rintro e w' ⟨rfl, rfl⟩))
    go_ret2
    exact ⟨rfl, by assumption⟩

theorem doR_no (s : ByteArray) (a b : Nat) (w : World) (hs : opOf s.toList = none) : Calls Tryd.prog 48 #[.string s, .int .u64 a, .int .u64 b] w fun e w' =>
    e = .returned (.tuple #[.int .u64 0, .int .i64 2]) ∧ Grown w w' := by
  have hn := nil_yes
  have HO := Lib.hid (oper_no s w hs)
  clear hs
  go_enter Tryd.func48, Tryd.ntmps48
  go_wp2_with (first | (go_at_call 55; refine HO.out.mono ?_; rintro e w' ⟨rfl, rfl⟩))
  go_ret2
  exact ⟨rfl, Grown.refl _⟩

end Go.Proofs.YtcaailiijmjdlaaDoor
