/- Contracts of what the statements of layer 11 call: PlainTokens, SameTokens, lexes, fails, spells, key, name, sign. -/
import Derived.Test.YtbnifedcfkpohaaDoorLxc
set_option linter.unusedSimpArgs false
set_option linter.unusedVariables false
set_option maxRecDepth 100000
namespace Go.Proofs.YtbnifedcfkpohaaDoor
open Go.ChangeShapes Go.WideShapes Go.ChangeAt Go.RowKit Go.Shelf
attribute [local go_sem] Oper.semAt_some

theorem text_eq (s t : ByteArray) : (s.toList == t.toList) = decide (s = t) := by
  by_cases e : s = t
  · subst e; simp
  · rw [decide_eq_false e]
    refine beq_eq_false_iff_ne.2 (fun h => e ?_)
    rw [ByteArray.toList_eq, ByteArray.toList_eq] at h
    exact ByteArray.ext (Array.toList_inj.1 h)

theorem eqT (k n p k' n' p' : Int) (s t : ByteArray) (w : World) : (binOp .eql 24 (tagg k s n p) (tagg k' t n' p')).run Tryd.prog w = .ok (.bool (k == k' && (decide (s = t) && (n == n' && p == p')))) w := by
  have hp : Tryd.prog.stoodInHeld 24 = false := by kernel_rfl
  have h0 : (part 3 #[.int .i64 k, .string s, .int .i64 n, .int .i64 p] 0).run Tryd.prog w = .ok (.int .i64 k) w := by kernel_rfl
  have h1 : (part 9 #[.int .i64 k, .string s, .int .i64 n, .int .i64 p] 1).run Tryd.prog w = .ok (.string s) w := by kernel_rfl
  have h2 : (part 3 #[.int .i64 k, .string s, .int .i64 n, .int .i64 p] 2).run Tryd.prog w = .ok (.int .i64 n) w := by kernel_rfl
  have h3 : (part 3 #[.int .i64 k, .string s, .int .i64 n, .int .i64 p] 3).run Tryd.prog w = .ok (.int .i64 p) w := by kernel_rfl
  have g0 : (part 3 #[.int .i64 k', .string t, .int .i64 n', .int .i64 p'] 0).run Tryd.prog w = .ok (.int .i64 k') w := by kernel_rfl
  have g1 : (part 9 #[.int .i64 k', .string t, .int .i64 n', .int .i64 p'] 1).run Tryd.prog w = .ok (.string t) w := by kernel_rfl
  have g2 : (part 3 #[.int .i64 k', .string t, .int .i64 n', .int .i64 p'] 2).run Tryd.prog w = .ok (.int .i64 n') w := by kernel_rfl
  have g3 : (part 3 #[.int .i64 k', .string t, .int .i64 n', .int .i64 p'] 3).run Tryd.prog w = .ok (.int .i64 p') w := by kernel_rfl
  have e1 := fun d => run_equalIn_string (P := Tryd.prog) w d 9 s t Tryd.underlying9
  have e2 := fun d (m n : Int) => run_equalIn_int (P := Tryd.prog) w d 3 .i64 .i64 m n Tryd.underlying3
  have hf : Tryd.prog.fieldsOf 24 = #[{ name := "Kind", type := 3, offset := 0, embedded := false, tag := "", pkgPath := "", byteOffset := 0 }, { name := "Text", type := 9, offset := 1, embedded := false, tag := "", pkgPath := "", byteOffset := 8 }, { name := "N", type := 3, offset := 2, embedded := false, tag := "", pkgPath := "", byteOffset := 24 }, { name := "At", type := 3, offset := 3, embedded := false, tag := "", pkgPath := "", byteOffset := 32 }] := by kernel_rfl
  rw [run_eql_struct, show (10000 : Nat) = 9998 + 1 + 1 from rfl, run_equalIn_struct w _ _ _ _ (by rw [hf]; exact Tryd.underlying24) hp, hf]
  simp only [Op.eqFields, Sem.run_bind, Sem.run_ite, h0, h1, h2, h3, g0, g1, g2, g3, e1, e2, Result.andThen_ok, text_eq]
  cases ha : (k == k') <;> cases h2 : decide (s = t) <;> cases h3 : (n == n') <;> cases h4 : (p == p') <;> simp [Op.eqFields, Result.andThen]

theorem eqF (e a e' a' : Int) (w : World) : (binOp .eql 38 (fagg e a) (fagg e' a')).run Tryd.prog w = .ok (.bool (e == e' && a == a')) w := by
  have hp : Tryd.prog.stoodInHeld 38 = false := by kernel_rfl
  have h0 : (part 26 #[.int .i64 e, .int .i64 a] 0).run Tryd.prog w = .ok (.int .i64 e) w := by kernel_rfl
  have h1 : (part 3 #[.int .i64 e, .int .i64 a] 1).run Tryd.prog w = .ok (.int .i64 a) w := by kernel_rfl
  have g0 : (part 26 #[.int .i64 e', .int .i64 a'] 0).run Tryd.prog w = .ok (.int .i64 e') w := by kernel_rfl
  have g1 : (part 3 #[.int .i64 e', .int .i64 a'] 1).run Tryd.prog w = .ok (.int .i64 a') w := by kernel_rfl
  have e1 := fun d => run_equalIn_int (P := Tryd.prog) w d 26 .i64 .i64 e e' Tryd.underlying26
  have e2 := fun d => run_equalIn_int (P := Tryd.prog) w d 3 .i64 .i64 a a' Tryd.underlying3
  have hf : Tryd.prog.fieldsOf 38 = #[{ name := "Err", type := 26, offset := 0, embedded := false, tag := "", pkgPath := "", byteOffset := 0 }, { name := "At", type := 3, offset := 1, embedded := false, tag := "", pkgPath := "", byteOffset := 8 }] := by kernel_rfl
  rw [run_eql_struct, show (10000 : Nat) = 9998 + 1 + 1 from rfl, run_equalIn_struct w _ _ _ _ (by rw [hf]; exact Tryd.underlying38) hp, hf]
  simp only [Op.eqFields, Sem.run_bind, Sem.run_ite, h0, h1, g0, g1, e1, e2, Result.andThen_ok]
  cases ha : (e == e') <;> cases h2 : (a == a') <;> simp [Op.eqFields, Result.andThen]

namespace Lx
def plainE (x y : T) : Bool := x.kind == y.kind && (decide (x.text = y.text) && x.n == y.n)
def sameE (x y : T) : Bool := x.kind == y.kind && (decide (x.text = y.text) && (x.n == y.n && x.pos == y.pos))
/-- Lists compared, thing by thing. -/
def allE (f : T → T → Bool) (L M : List T) : Bool := decide (L.length = M.length) && (L.zip M).all fun q => f q.1 q.2
theorem allE_no {f : T → T → Bool} {L M : List T} {k : Nat} (h : (decide (L.length = M.length) && ((L.zip M).take k).all fun q => f q.1 q.2) = false) : allE f L M = false := by
  unfold allE
  cases hd : decide (L.length = M.length) with
  | false => rfl
  | true =>
    rw [hd, Bool.true_and] at h
    rw [Bool.true_and, Bool.eq_false_iff]
    intro ha
    rw [List.all_eq_true] at ha
    rw [Bool.eq_false_iff] at h
    exact h (List.all_eq_true.2 fun q hq => ha q (List.mem_of_mem_take hq))
theorem zip_next {L M : List T} {k : Nat} (hL : k < L.length) (hM : k < M.length) : (L.zip M).take (k + 1) = (L.zip M).take k ++ [(L[k], M[k])] := by
  rw [List.take_succ_eq_append_getElem (by rw [List.length_zip]; omega)]
  simp
end Lx

set_option maxHeartbeats 4000000 in
theorem plain_c (L M : List Lx.T) (a b : Option Addr) (c d : Nat) (w : World) (hL : TksAt w (.slice a L.length c) L) (hM : TksAt w (.slice b M.length d) M) :
    Calls Tryd.prog 20 #[.slice a L.length c, .slice b M.length d] w fun e w' => e = .returned (.bool (Lx.allE Lx.plainE L M)) ∧ Kept w w' := by
  have HA : Hid (∀ i (hi : i < L.length) W, Kept w W → ∃ g o, a = some ⟨g, o, none⟩ ∧ TokR W g (o + i * 4) L[i]) := Lib.hid (by
    intro i hi W k
    obtain ⟨a', c', e, h1, h2, h3⟩ := tks_kept hL k
    injection e with e1 e2 e3
    subst e1 e3
    exact h3 i L[i] (List.getElem?_eq_getElem hi))
  have HB : Hid (∀ i (hi : i < M.length) W, Kept w W → ∃ g o, b = some ⟨g, o, none⟩ ∧ TokR W g (o + i * 4) M[i]) := Lib.hid (by
    intro i hi W k
    obtain ⟨a', c', e, h1, h2, h3⟩ := tks_kept hM k
    injection e with e1 e2 e3
    subst e1 e3
    exact h3 i M[i] (List.getElem?_eq_getElem hi))
  obtain ⟨R, hR⟩ : ∃ R, Lx.allE Lx.plainE L M = R := ⟨_, rfl⟩
  rw [hR]
  have HR := Lib.hid hR
  have hcL : L.length ≤ maxLen := hL.len
  have hcM : M.length ≤ maxLen := hM.len
  unfold maxLen at hcL hcM
  clear hL hM hR
  obtain ⟨s0, hs0⟩ : ∃ s0, decide (L.length = M.length) = s0 := ⟨_, rfl⟩
  have hs0I : ((L.length : Int) == (M.length : Int)) = s0 := by
    rw [← hs0]
    by_cases e : L.length = M.length
    · rw [decide_eq_true e]; simp; omega
    · rw [decide_eq_false e]; simp; omega
  have HS0 := Lib.hid hs0
  clear hs0
  go_enter Tryd.func20, Tryd.ntmps20
  go_wp2
  go_loopw [5, 6] (fun s i wr => ∃ (k : Nat) (sv : Bool), k ≤ L.length ∧ i = .int .i64 k ∧ s = .bool sv ∧ Hid ((decide (L.length = M.length) && ((L.zip M).take k).all fun q => Lx.plainE q.1 q.2) = sv) ∧ Hid (Kept w wr)) (fun s i wr => L.length - (intOf i).toNat)
  case atStart => exact ⟨0, s0, Nat.zero_le _, rfl, by first | rfl | (rw [hs0I]), Lib.hid (by rw [HS0.out]; simp), Lib.hid (Kept.refl w)⟩
  case round =>
    obtain ⟨k, sv, hk, rfl, rfl, HV, HK⟩ := hrel
    cases sv with
    | false =>
      obtain rfl : R = false := by rw [← HR.out]; exact Lx.allE_no HV.out
      go_wp2
      go_ret
      exact ⟨rfl, HK.out⟩
    | true =>
      have hv := HV.out
      rw [Bool.and_eq_true, decide_eq_true_iff] at hv
      obtain ⟨hlen, hall⟩ := hv
      have HLEN := Lib.hid hlen
      by_cases hlt : k < L.length
      · have hltI : (k : Int) < (L.length : Int) := by omega
        have hltM : (k : Int) < (M.length : Int) := by omega
        have hkM : k < M.length := by omega
        obtain ⟨g, o, rfl, x0, x1, x2, x3⟩ := HA.out k hlt wr HK.out
        obtain ⟨g', o', rfl, y0, y1, y2, y3⟩ := HB.out k hkM wr HK.out
        have HN := Lib.hid (Lx.zip_next hlt hkM)
        have HAL := Lib.hid hall
        clear hlen hall HV
        generalize L[k] = x at *
        generalize M[k] = y at *
        have hte := text_eq x.text y.text
        obtain ⟨b1, hb1⟩ : ∃ b1, (x.kind == y.kind) = b1 := ⟨_, rfl⟩
        obtain ⟨b2, hb2⟩ : ∃ b2, (x.text.toList == y.text.toList) = b2 := ⟨_, rfl⟩
        obtain ⟨b3, hb3⟩ : ∃ b3, (x.n == y.n) = b3 := ⟨_, rfl⟩
        have HE := Lib.hid (show Lx.plainE x y = (b1 && (b2 && b3)) by unfold Lx.plainE; rw [← hte, hb1, hb2, hb3])
        have HNX := Lib.hid (show (decide (L.length = M.length) && ((L.zip M).take (k + 1)).all fun q => Lx.plainE q.1 q.2) = (b1 && (b2 && b3)) by rw [decide_eq_true HLEN.out, Bool.true_and, HN.out, List.all_append, HAL.out, Bool.true_and]; simp [HE.out])
        clear hte
        cases b1 with
        | false =>
          go_wp2
          go_quiet (fail)
          go_wp2
          go_roundw
          case rel => exact ⟨k + 1, _, by omega, by go_num, rfl, Lib.hid HNX.out, Lib.hid (HK.out.drewN _)⟩
          case measure => simp [intOf]; omega
        | true =>
          cases b2 with
          | false =>
            go_wp2
            go_quiet (fail)
            go_wp2
            go_roundw
            case rel => exact ⟨k + 1, _, by omega, by go_num, rfl, Lib.hid HNX.out, Lib.hid (HK.out.drewN _)⟩
            case measure => simp [intOf]; omega
          | true =>
            go_wp2
            go_quiet (fail)
            go_wp2
            go_roundw
            case rel => exact ⟨k + 1, _, by omega, by go_num, rfl, Lib.hid (by rw [HNX.out]; simp), Lib.hid (HK.out.drewN _)⟩
            case measure => simp [intOf]; omega
      · obtain rfl : k = L.length := by omega
        have hltI : ¬ (L.length : Int) < (L.length : Int) := by omega
        obtain rfl : R = true := by
          rw [← HR.out]
          unfold Lx.allE
          rw [decide_eq_true hlen, Bool.true_and]
          rw [List.take_of_length_le (by rw [List.length_zip]; omega)] at hall
          exact hall
        clear hlen hall HV
        go_wp2
        go_ret
        exact ⟨rfl, HK.out⟩

set_option maxHeartbeats 4000000 in
theorem same_c (L M : List Lx.T) (a b : Option Addr) (c d : Nat) (w : World) (hL : TksAt w (.slice a L.length c) L) (hM : TksAt w (.slice b M.length d) M) :
    Calls Tryd.prog 19 #[.slice a L.length c, .slice b M.length d] w fun e w' => e = .returned (.bool (Lx.allE Lx.sameE L M)) ∧ Kept w w' := by
  have HA : Hid (∀ i (hi : i < L.length) W, Kept w W → ∃ g o, a = some ⟨g, o, none⟩ ∧ TokR W g (o + i * 4) L[i]) := Lib.hid (by
    intro i hi W k
    obtain ⟨a', c', e, h1, h2, h3⟩ := tks_kept hL k
    injection e with e1 e2 e3
    subst e1 e3
    exact h3 i L[i] (List.getElem?_eq_getElem hi))
  have HB : Hid (∀ i (hi : i < M.length) W, Kept w W → ∃ g o, b = some ⟨g, o, none⟩ ∧ TokR W g (o + i * 4) M[i]) := Lib.hid (by
    intro i hi W k
    obtain ⟨a', c', e, h1, h2, h3⟩ := tks_kept hM k
    injection e with e1 e2 e3
    subst e1 e3
    exact h3 i M[i] (List.getElem?_eq_getElem hi))
  obtain ⟨R, hR⟩ : ∃ R, Lx.allE Lx.sameE L M = R := ⟨_, rfl⟩
  rw [hR]
  have HR := Lib.hid hR
  have hcL : L.length ≤ maxLen := hL.len
  have hcM : M.length ≤ maxLen := hM.len
  unfold maxLen at hcL hcM
  clear hL hM hR
  obtain ⟨s0, hs0⟩ : ∃ s0, decide (L.length = M.length) = s0 := ⟨_, rfl⟩
  have hs0I : ((L.length : Int) == (M.length : Int)) = s0 := by
    rw [← hs0]
    by_cases e : L.length = M.length
    · rw [decide_eq_true e]; simp; omega
    · rw [decide_eq_false e]; simp; omega
  have HS0 := Lib.hid hs0
  clear hs0
  go_enter Tryd.func19, Tryd.ntmps19
  go_wp2
  go_loopw [5, 6] (fun s i wr => ∃ (k : Nat) (sv : Bool), k ≤ L.length ∧ i = .int .i64 k ∧ s = .bool sv ∧ Hid ((decide (L.length = M.length) && ((L.zip M).take k).all fun q => Lx.sameE q.1 q.2) = sv) ∧ Hid (Kept w wr)) (fun s i wr => L.length - (intOf i).toNat)
  case atStart => exact ⟨0, s0, Nat.zero_le _, rfl, by first | rfl | (rw [hs0I]), Lib.hid (by rw [HS0.out]; simp), Lib.hid (Kept.refl w)⟩
  case round =>
    obtain ⟨k, sv, hk, rfl, rfl, HV, HK⟩ := hrel
    cases sv with
    | false =>
      obtain rfl : R = false := by rw [← HR.out]; exact Lx.allE_no HV.out
      go_wp2
      go_ret
      exact ⟨rfl, HK.out⟩
    | true =>
      have hv := HV.out
      rw [Bool.and_eq_true, decide_eq_true_iff] at hv
      obtain ⟨hlen, hall⟩ := hv
      have HLEN := Lib.hid hlen
      by_cases hlt : k < L.length
      · have hltI : (k : Int) < (L.length : Int) := by omega
        have hltM : (k : Int) < (M.length : Int) := by omega
        have hkM : k < M.length := by omega
        obtain ⟨g, o, rfl, x0, x1, x2, x3⟩ := HA.out k hlt wr HK.out
        obtain ⟨g', o', rfl, y0, y1, y2, y3⟩ := HB.out k hkM wr HK.out
        have HN := Lib.hid (Lx.zip_next hlt hkM)
        have HAL := Lib.hid hall
        clear hlen hall HV
        generalize L[k] = x at *
        generalize M[k] = y at *
        have hq := fun W => eqT x.kind x.n x.pos y.kind y.n y.pos x.text y.text W
        have HE := Lib.hid (show Lx.sameE x y = _ from rfl)
        obtain ⟨b1, hb1⟩ : ∃ b1, (x.kind == y.kind && (decide (x.text = y.text) && (x.n == y.n && x.pos == y.pos))) = b1 := ⟨_, rfl⟩
        rw [hb1] at hq
        have HNX := Lib.hid (show (decide (L.length = M.length) && ((L.zip M).take (k + 1)).all fun q => Lx.sameE q.1 q.2) = b1 by rw [decide_eq_true HLEN.out, Bool.true_and, HN.out, List.all_append, HAL.out, Bool.true_and]; simp only [List.all_cons, List.all_nil, Bool.and_true]; exact hb1)
        clear hb1
        go_wp2
        go_quiet (fail)
        go_wp2
        go_roundw
        case rel => exact ⟨k + 1, _, by omega, by go_num, rfl, Lib.hid HNX.out, Lib.hid (HK.out.drewN _)⟩
        case measure => simp [intOf]; omega
      · obtain rfl : k = L.length := by omega
        have hltI : ¬ (L.length : Int) < (L.length : Int) := by omega
        obtain rfl : R = true := by
          rw [← HR.out]
          unfold Lx.allE
          rw [decide_eq_true hlen, Bool.true_and]
          rw [List.take_of_length_le (by rw [List.length_zip]; omega)] at hall
          exact hall
        clear hlen hall HV
        go_wp2
        go_ret
        exact ⟨rfl, HK.out⟩

end Go.Proofs.YtbnifedcfkpohaaDoor
