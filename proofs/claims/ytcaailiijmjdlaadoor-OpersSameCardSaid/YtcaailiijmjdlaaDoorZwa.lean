/- What the law's helpers say: structs compared; values compared where there is no chain; Zero; what Bin and Do are told to come to. -/
import Derived.Test.YtcaailiijmjdlaaDoorZvf
import Derived.Test.YtcaailiijmjdlaaDoorRfm
import Derived.Laws.StructEq
set_option linter.unusedSimpArgs false
set_option linter.unusedVariables false
set_option maxRecDepth 100000

namespace Go.Proofs.YtcaailiijmjdlaaDoor

open Go.ChangeShapes Go.WideShapes Go.ChangeAt Go.RowKit Flo

attribute [local go_sem] Oper.semAt_some

open Zp (V R Out K DK e0 dy tI tR tB tS)

theorem eqOpA (s t u v : ByteArray) (a b : Bool) (w : World) : (binOp .eql opT (.agg #[.string s, .string t, .bool a]) (.agg #[.string u, .string v, .bool b])).run Tryd.prog w = .ok (.bool (decide (s = u) && (decide (t = v) && a == b))) w := by
  have hf : Tryd.prog.fieldsOf opT = #[{ name := "Arg", type := 9, offset := 0, embedded := false, tag := "", pkgPath := "", byteOffset := 0 }, { name := "Result", type := 9, offset := 1, embedded := false, tag := "", pkgPath := "", byteOffset := 16 }, { name := "Dyn", type := 4, offset := 2, embedded := false, tag := "", pkgPath := "", byteOffset := 32 }] := by kernel_rfl
  have hp : Tryd.prog.stoodInHeld opT = false := by kernel_rfl
  have h0 : (part 9 #[.string s, .string t, .bool a] 0).run Tryd.prog w = .ok (.string s) w := by kernel_rfl
  have h1 : (part 9 #[.string s, .string t, .bool a] 1).run Tryd.prog w = .ok (.string t) w := by kernel_rfl
  have h2 : (part 4 #[.string s, .string t, .bool a] 2).run Tryd.prog w = .ok (.bool a) w := by kernel_rfl
  have g0 : (part 9 #[.string u, .string v, .bool b] 0).run Tryd.prog w = .ok (.string u) w := by kernel_rfl
  have g1 : (part 9 #[.string u, .string v, .bool b] 1).run Tryd.prog w = .ok (.string v) w := by kernel_rfl
  have g2 : (part 4 #[.string u, .string v, .bool b] 2).run Tryd.prog w = .ok (.bool b) w := by kernel_rfl
  have e0 := fun d => run_equalIn_string (P := Tryd.prog) w d 9 s u Tryd.underlying9
  have e1 := fun d => run_equalIn_string (P := Tryd.prog) w d 9 t v Tryd.underlying9
  have e2 := fun d => run_equalIn_bool' (P := Tryd.prog) w d 4 a b Tryd.underlying4
  rw [run_eql_struct, show (10000 : Nat) = 9998 + 1 + 1 from rfl, run_equalIn_struct w _ _ _ _ (by rw [hf]; exact Tryd.underlying44) hp, hf]
  simp only [Op.eqFields, Sem.run_bind, Sem.run_ite, h0, h1, h2, g0, g1, g2, e0, e1, e2, Result.andThen_ok, teqB]
  cases h3 : decide (s = u) <;> cases h4 : decide (t = v) <;> cases h5 : (a == b) <;> simp [Op.eqFields, Result.andThen]

theorem eqOp_same (r : R) (w : World) : (binOp .eql opT (.agg #[.string r.arg, .string r.res, .bool r.dyn]) (.agg #[.string r.arg, .string r.res, .bool r.dyn])).run Tryd.prog w = .ok (.bool true) w := by
  rw [eqOpA]; simp

theorem sameLay_nil (w : World) : Calls Tryd.prog 25 #[.slice none 0 0, .slice none 0 0] w fun e w' => e = .returned (.bool true) ∧ w = w' := by
  go_enter Tryd.func25, Tryd.ntmps25
  go_wp2_with fail
  go_loopw [5] (fun i wr => i = .int .i64 0 ∧ wr = w) (fun i wr => 0)
  case atStart => exact ⟨rfl, rfl⟩
  case round =>
    obtain ⟨rfl, rfl⟩ := hrel
    go_wp2_with fail
    go_ret
    exact ⟨rfl, rfl⟩

/-- Are two values without a chain the same, field by field? -/
def Zp.sameV (a b : V) : Bool := a.tag == b.tag && (a.n == b.n && ((a.bits : Int) == b.bits && decide (a.s = b.s)))

set_option maxHeartbeats 2000000 in
theorem sameVal_c (a b : V) (w : World) : Calls Tryd.prog 16 #[a.p, b.p] w fun e w' => e = .returned (.bool (Zp.sameV a b)) ∧ Kept w w' := by
  obtain ⟨W1, hW1⟩ : ∃ W, w.alloc (.cells #[.int .i64 a.tag, .int .i64 a.n, .int .u64 (a.bits : Int), .string a.s, .slice none 0 0] vT) = W := ⟨_, rfl⟩
  obtain ⟨W2, hW2⟩ : ∃ W, W1.alloc (.cells #[.int .i64 b.tag, .int .i64 b.n, .int .u64 (b.bits : Int), .string b.s, .slice none 0 0] vT) = W := ⟨_, rfl⟩
  obtain ⟨b1, b2, k2, z1⟩ := two_box hW1 hW2
  have HK := Lib.hid k2
  have HW1 := Lib.hid hW1
  have HW2 := Lib.hid hW2
  have hs := teqB a.s b.s
  obtain ⟨⟨x0, x1, x2, x3, x4⟩, _⟩ := blk5 b1
  obtain ⟨⟨y0, y1, y2, y3, y4⟩, _⟩ := blk5 b2
  unfold Zp.sameV
  clear hW1 hW2 b1 b2 k2
  cases h1 : a.tag == b.tag with
  | false =>
    go_enter Tryd.func16, Tryd.ntmps16
    go_wp2_with (first | rw [HW1.out] | rw [z1] | rw [HW2.out])
    go_ret
    exact ⟨rfl, HK.out⟩
  | true =>
    cases h2 : a.n == b.n with
    | false =>
      go_enter Tryd.func16, Tryd.ntmps16
      go_wp2_with (first | rw [HW1.out] | rw [z1] | rw [HW2.out])
      go_ret
      exact ⟨rfl, HK.out⟩
    | true =>
      cases h3 : (a.bits : Int) == b.bits with
      | false =>
        go_enter Tryd.func16, Tryd.ntmps16
        go_wp2_with (first | rw [HW1.out] | rw [z1] | rw [HW2.out])
        go_ret
        exact ⟨rfl, HK.out⟩
      | true =>
        cases h4 : decide (a.s = b.s) with
        | false =>
          rw [h4] at hs
          go_enter Tryd.func16, Tryd.ntmps16
          go_wp2_with (first | rw [HW1.out] | rw [z1] | rw [HW2.out])
          go_ret
          exact ⟨rfl, HK.out⟩
        | true =>
          rw [h4] at hs
          go_enter Tryd.func16, Tryd.ntmps16
          go_wp2_with (first | rw [HW1.out] | rw [z1] | rw [HW2.out])
          refine (sameLay_nil _).mono ?_
          rintro e w3 ⟨rfl, rfl⟩
          go_wp2_with fail
          go_ret
          exact ⟨rfl, HK.out⟩

theorem sameV_self (a : V) : Zp.sameV a a = true := by unfold Zp.sameV; simp
/-! ### Zero -/

def zeroV (s : ByteArray) : V := if Wrd.typ s = false then V.z else if Wrd.base s = true then ⟨Wrd.tag s, 0, 0, e0⟩ else ⟨6, 0, 0, e0⟩

def zeroE (s : ByteArray) : Int := if Wrd.typ s = false then 7 else 0

end Go.Proofs.YtcaailiijmjdlaaDoor
