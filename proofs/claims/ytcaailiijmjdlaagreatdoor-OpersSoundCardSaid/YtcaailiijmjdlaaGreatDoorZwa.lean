/- What the law's helpers say: structs compared; values compared where there is no chain; Zero; what Bin and Do are told to come to. -/
import Derived.Test.YtcaailiijmjdlaaGreatDoorZvf
import Derived.Test.YtcaailiijmjdlaaGreatDoorRfm
import Derived.Laws.StructEq
set_option linter.unusedSimpArgs false
set_option linter.unusedVariables false
set_option maxRecDepth 100000
namespace Go.Proofs.YtcaailiijmjdlaaGreatDoor
open Go.ChangeShapes Go.WideShapes Go.ChangeAt Go.RowKit Flo
attribute [local go_sem] Oper.semAt_some
open Zp (V R Out K DK e0 dy tI tR tB tS)

theorem eqOpA (s t u v : ByteArray) (a b : Bool) (w : World) : (binOp .eql opT (.agg #[.string s, .string t, .bool a]) (.agg #[.string u, .string v, .bool b])).run Tryz.prog w = .ok (.bool (decide (s = u) && (decide (t = v) && a == b))) w := by
  have hf : Tryz.prog.fieldsOf opT = #[{ name := "Arg", type := 9, offset := 0, embedded := false, tag := "", pkgPath := "", byteOffset := 0 }, { name := "Result", type := 9, offset := 1, embedded := false, tag := "", pkgPath := "", byteOffset := 16 }, { name := "Dyn", type := 4, offset := 2, embedded := false, tag := "", pkgPath := "", byteOffset := 32 }] := by kernel_rfl
  have hp : Tryz.prog.stoodInHeld opT = false := by kernel_rfl
  have h0 : (part 9 #[.string s, .string t, .bool a] 0).run Tryz.prog w = .ok (.string s) w := by kernel_rfl
  have h1 : (part 9 #[.string s, .string t, .bool a] 1).run Tryz.prog w = .ok (.string t) w := by kernel_rfl
  have h2 : (part 4 #[.string s, .string t, .bool a] 2).run Tryz.prog w = .ok (.bool a) w := by kernel_rfl
  have g0 : (part 9 #[.string u, .string v, .bool b] 0).run Tryz.prog w = .ok (.string u) w := by kernel_rfl
  have g1 : (part 9 #[.string u, .string v, .bool b] 1).run Tryz.prog w = .ok (.string v) w := by kernel_rfl
  have g2 : (part 4 #[.string u, .string v, .bool b] 2).run Tryz.prog w = .ok (.bool b) w := by kernel_rfl
  have e0 := fun d => run_equalIn_string (P := Tryz.prog) w d 9 s u Tryz.underlying9
  have e1 := fun d => run_equalIn_string (P := Tryz.prog) w d 9 t v Tryz.underlying9
  have e2 := fun d => run_equalIn_bool' (P := Tryz.prog) w d 4 a b Tryz.underlying4
  rw [run_eql_struct, show (10000 : Nat) = 9998 + 1 + 1 from rfl, run_equalIn_struct w _ _ _ _ (by rw [hf]; exact Tryz.underlying24) hp, hf]
  simp only [Op.eqFields, Sem.run_bind, Sem.run_ite, h0, h1, h2, g0, g1, g2, e0, e1, e2, Result.andThen_ok, teqB]
  cases h3 : decide (s = u) <;> cases h4 : decide (t = v) <;> cases h5 : (a == b) <;> simp [Op.eqFields, Result.andThen]
theorem eqOp_same (r : R) (w : World) : (binOp .eql opT (.agg #[.string r.arg, .string r.res, .bool r.dyn]) (.agg #[.string r.arg, .string r.res, .bool r.dyn])).run Tryz.prog w = .ok (.bool true) w := by
  rw [eqOpA]; simp

theorem sameLay_nil (w : World) : Calls Tryz.prog 53 #[.slice none 0 0, .slice none 0 0] w fun e w' => e = .returned (.bool true) ∧ w = w' := by
  go_enter Tryz.func53, Tryz.ntmps53
  go_wp2_with fail
  go_loopw [5] (fun i wr => i = .int .i64 0 ∧ wr = w) (fun i wr => 0)
  case atStart => exact ⟨rfl, rfl⟩
  case round =>
    obtain ⟨rfl, rfl⟩ := hrel
    go_wp2_with fail
    go_ret
    exact ⟨rfl, rfl⟩

/-- Are two values without a chain the same, field by field? -/
def Zp.sameV (a b : V) : Bool := a.tag == b.tag && (a.n == b.n && ((a.bits : Int) == b.bits && decide (a.s = b.s)))
set_option maxHeartbeats 2000000 in
theorem sameVal_c (a b : V) (w : World) : Calls Tryz.prog 17 #[a.p, b.p] w fun e w' => e = .returned (.bool (Zp.sameV a b)) ∧ Kept w w' := by
  obtain ⟨W1, hW1⟩ : ∃ W, w.alloc (.cells #[.int .i64 a.tag, .int .i64 a.n, .int .u64 (a.bits : Int), .string a.s, .slice none 0 0] vT) = W := ⟨_, rfl⟩
  obtain ⟨W2, hW2⟩ : ∃ W, W1.alloc (.cells #[.int .i64 b.tag, .int .i64 b.n, .int .u64 (b.bits : Int), .string b.s, .slice none 0 0] vT) = W := ⟨_, rfl⟩
  obtain ⟨b1, b2, k2, z1⟩ := two_box hW1 hW2
  have HK := Lib.hid k2
  have HW1 := Lib.hid hW1
  have HW2 := Lib.hid hW2
  have hs := teqB a.s b.s
  obtain ⟨⟨x0, x1, x2, x3, x4⟩, _⟩ := blk5 b1
  obtain ⟨⟨y0, y1, y2, y3, y4⟩, _⟩ := blk5 b2
  unfold Zp.sameV
  clear hW1 hW2 b1 b2 k2
  cases h1 : a.tag == b.tag with
  | false =>
    go_enter Tryz.func17, Tryz.ntmps17
    go_wp2_with (first | rw [HW1.out] | rw [z1] | rw [HW2.out])
    go_ret
    exact ⟨rfl, HK.out⟩
  | true =>
    cases h2 : a.n == b.n with
    | false =>
      go_enter Tryz.func17, Tryz.ntmps17
      go_wp2_with (first | rw [HW1.out] | rw [z1] | rw [HW2.out])
      go_ret
      exact ⟨rfl, HK.out⟩
    | true =>
      cases h3 : (a.bits : Int) == b.bits with
      | false =>
        go_enter Tryz.func17, Tryz.ntmps17
        go_wp2_with (first | rw [HW1.out] | rw [z1] | rw [HW2.out])
        go_ret
        exact ⟨rfl, HK.out⟩
      | true =>
        cases h4 : decide (a.s = b.s) with
        | false =>
          rw [h4] at hs
          go_enter Tryz.func17, Tryz.ntmps17
          go_wp2_with (first | rw [HW1.out] | rw [z1] | rw [HW2.out])
          go_ret
          exact ⟨rfl, HK.out⟩
        | true =>
          rw [h4] at hs
          go_enter Tryz.func17, Tryz.ntmps17
          go_wp2_with (first | rw [HW1.out] | rw [z1] | rw [HW2.out])
          refine (sameLay_nil _).mono ?_
          rintro e w3 ⟨rfl, rfl⟩
          go_wp2_with fail
          go_ret
          exact ⟨rfl, HK.out⟩
theorem sameV_self (a : V) : Zp.sameV a a = true := by unfold Zp.sameV; simp

/-! ### Zero -/
def zeroV (s : ByteArray) : V := if Wrd.typ s = false then V.z else if Wrd.base s = true then ⟨Wrd.tag s, 0, 0, e0⟩ else ⟨6, 0, 0, e0⟩
def zeroE (s : ByteArray) : Int := if Wrd.typ s = false then 7 else 0
set_option maxHeartbeats 2000000 in
theorem zzero_c (s : ByteArray) (hs : s.size ≤ 9223372036854775807) (w : World) (hT : Tb w) : Calls Tryz.prog 15 #[.string s] w fun e w' => e = .returned (.tuple #[(zeroV s).p, .int .i64 (zeroE s)]) ∧ Kept w w' := by
  obtain ⟨W0, hW0⟩ : ∃ W, w.alloc (.cells vZ vT) = W := ⟨_, rfl⟩
  obtain ⟨k0, b0, _⟩ := vnew hW0
  have HW0 := Lib.hid hW0
  have HB0 := Lib.hid b0
  have HK0 := Lib.hid k0
  have HT := Lib.hid (hT.kept k0)
  clear hT
  have HC := Lib.hid (type_c s W0 HT.out hs)
  unfold zeroV zeroE
  clear hW0 b0 k0 hs
  cases ht : Wrd.typ s with
  | false =>
    rw [ht] at HC
    go_enter Tryz.func15, Tryz.ntmps15
    go_wp2_with (rw [HW0.out])
    refine HC.out.mono ?_
    rintro e w1 ⟨rfl, k1⟩
    obtain ⟨⟨x0, x1, x2, x3, x4⟩, f0, f1, f2, f3, f4⟩ := blk5 (HB0.out.kept k1)
    have HB1 := Lib.hid (HB0.out.kept k1)
    have HK1 := Lib.hid (HK0.out.trans k1)
    clear k1
    go_wp2_with fail
    exact bodyPost_ret (v_results2 (by rfl) _ _ rfl rfl (put5_blk HB1.out _ _ _ _ _)) rfl ⟨rfl, HK1.out.only (put5_only _ _ _ _ _ _ _) rfl (fun k e => by omega)⟩
  | true =>
    rw [ht] at HC
    go_enter Tryz.func15, Tryz.ntmps15
    go_wp2_with (rw [HW0.out])
    refine HC.out.mono ?_
    rintro e w1 ⟨rfl, k1⟩
    have HG := Lib.hid (tag_c s w1 (HT.out.kept k1))
    have HB1 := Lib.hid (HB0.out.kept k1)
    have HK1 := Lib.hid (HK0.out.trans k1)
    clear k1
    go_wp2_with fail
    refine HG.out.mono ?_
    rintro e w2 ⟨rfl, k2⟩
    obtain ⟨⟨x0, x1, x2, x3, x4⟩, f0, f1, f2, f3, f4⟩ := blk5 (HB1.out.kept k2)
    have HB2 := Lib.hid (HB1.out.kept k2)
    have HK2 := Lib.hid (HK1.out.trans k2)
    clear k2
    cases hb : Wrd.base s with
    | true =>
      have he : Wrd.tagE s = 0 := by unfold Wrd.tagE; rw [hb]; rfl
      rw [he]
      clear he
      go_wp2_with fail
      exact bodyPost_ret (v_results2 (by rfl) _ _ rfl rfl (put5_blk HB2.out _ _ _ _ _)) rfl ⟨rfl, HK2.out.only (put5_only _ _ _ _ _ _ _) rfl (fun k e => by omega)⟩
    | false =>
      have he : Wrd.tagE s = 7 := by unfold Wrd.tagE; rw [hb]; rfl
      rw [he]
      clear he
      go_wp2_with fail
      exact bodyPost_ret (v_results2 (by rfl) _ _ rfl rfl (put5_blk HB2.out _ _ _ _ _)) rfl ⟨rfl, HK2.out.only (put5_only _ _ _ _ _ _ _) rfl (fun k e => by omega)⟩

set_option maxHeartbeats 2000000 in
theorem rzero_c (s : ByteArray) (hs : s.size ≤ 9223372036854775807) (w : World) : Calls Tryz.prog 16 #[.string s] w fun e w' => e = .returned (.tuple #[(zeroV s).p, .int .i64 (zeroE s)]) ∧ Kept w w' := by
  obtain ⟨W0, hW0⟩ : ∃ W, w.alloc (.cells vZ vT) = W := ⟨_, rfl⟩
  obtain ⟨k0, b0, _⟩ := vnew hW0
  have HW0 := Lib.hid hW0
  have HB0 := Lib.hid b0
  have HK0 := Lib.hid k0
  have HC := Lib.hid (typeR_c s W0 hs)
  unfold zeroV zeroE
  clear hW0 b0 k0 hs
  cases ht : Wrd.typ s with
  | false =>
    rw [ht] at HC
    go_enter Tryz.func16, Tryz.ntmps16
    go_wp2_with (rw [HW0.out])
    refine HC.out.mono ?_
    rintro e w1 ⟨rfl, k1⟩
    obtain ⟨⟨x0, x1, x2, x3, x4⟩, f0, f1, f2, f3, f4⟩ := blk5 (HB0.out.kept k1)
    have HB1 := Lib.hid (HB0.out.kept k1)
    have HK1 := Lib.hid (HK0.out.trans k1)
    clear k1
    go_wp2_with fail
    exact bodyPost_ret (v_results2 (by rfl) _ _ rfl rfl (put5_blk HB1.out _ _ _ _ _)) rfl ⟨rfl, HK1.out.only (put5_only _ _ _ _ _ _ _) rfl (fun k e => by omega)⟩
  | true =>
    rw [ht] at HC
    go_enter Tryz.func16, Tryz.ntmps16
    go_wp2_with (rw [HW0.out])
    refine HC.out.mono ?_
    rintro e w1 ⟨rfl, k1⟩
    have HG := Lib.hid (tagR_c s w1)
    have HB1 := Lib.hid (HB0.out.kept k1)
    have HK1 := Lib.hid (HK0.out.trans k1)
    clear k1
    go_wp2_with fail
    refine HG.out.mono ?_
    rintro e w2 ⟨rfl, k2⟩
    obtain ⟨⟨x0, x1, x2, x3, x4⟩, f0, f1, f2, f3, f4⟩ := blk5 (HB1.out.kept k2)
    have HB2 := Lib.hid (HB1.out.kept k2)
    have HK2 := Lib.hid (HK1.out.trans k2)
    clear k2
    cases hb : Wrd.base s with
    | true =>
      have he : Wrd.tagE s = 0 := by unfold Wrd.tagE; rw [hb]; rfl
      rw [he]
      clear he
      go_wp2_with fail
      exact bodyPost_ret (v_results2 (by rfl) _ _ rfl rfl (put5_blk HB2.out _ _ _ _ _)) rfl ⟨rfl, HK2.out.only (put5_only _ _ _ _ _ _ _) rfl (fun k e => by omega)⟩
    | false =>
      have he : Wrd.tagE s = 7 := by unfold Wrd.tagE; rw [hb]; rfl
      rw [he]
      clear he
      go_wp2_with fail
      exact bodyPost_ret (v_results2 (by rfl) _ _ rfl rfl (put5_blk HB2.out _ _ _ _ _)) rfl ⟨rfl, HK2.out.only (put5_only _ _ _ _ _ _ _) rfl (fun k e => by omega)⟩

end Go.Proofs.YtcaailiijmjdlaaGreatDoor
