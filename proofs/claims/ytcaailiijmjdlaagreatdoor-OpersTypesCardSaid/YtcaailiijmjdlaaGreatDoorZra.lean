/- The document's answers: among, takes; plain: Un and Conv in the document's form. -/
import Derived.Test.YtcaailiijmjdlaaGreatDoorZtp
set_option linter.unusedSimpArgs false
set_option linter.unusedVariables false
set_option maxRecDepth 100000
namespace Go.Proofs.YtcaailiijmjdlaaGreatDoor.Zp

def runV (op s : ByteArray) : R :=
  if op = oSub then (if has [tI, tR] s = true then ⟨s, s, false, 0⟩ else if s = dy then ⟨tI, tI, false, 0⟩ else bad 7) else
  if op = oNot then (if has [tB, dy] s = true then ⟨tB, tB, false, 0⟩ else bad 7) else bad 2
def rconv (op s : ByteArray) : R :=
  if op = tR then (if s = tI ∨ s = dy then ⟨tI, tR, false, 0⟩ else bad 7) else if op = tI then (if s = tR ∨ s = dy then ⟨tR, tI, false, 0⟩ else bad 7) else
  if op = cLen then (if s = tS ∨ s = dy then ⟨tS, tI, false, 0⟩ else bad 7) else bad 2

theorem one_eq (res t s : ByteArray) (T : List ByteArray) : one res t T s = if s = dy then ⟨t, orR res t, decide (t = dy), 0⟩ else if t = s ∨ has T s = true then ⟨s, orR res s, decide (s = dy), 0⟩ else bad 7 := by
  unfold one oper
  by_cases h : s = dy
  · rw [if_pos h, if_pos h, if_pos (by simp [has, Wrd.has])]
  · rw [if_neg h, if_neg h]
    by_cases h2 : t = s
    · rw [if_pos (by simp [has, Wrd.has, h2]), if_pos (.inl h2)]
    · cases h3 : has T s
      · have g : ¬ (has (t :: T) s = true) := by show ¬ ((decide (t = s) || Wrd.has T s) = true); rw [show Wrd.has T s = false from h3]; simp [h2]
        rw [if_neg g, if_neg (by simp [h2])]
      · have g : has (t :: T) s = true := by show (decide (t = s) || Wrd.has T s) = true; rw [show Wrd.has T s = true from h3]; simp
        rw [if_pos g, if_pos (.inr rfl)]
theorem typ_of {s : ByteArray} (h : s = tI ∨ s = tR ∨ s = tB ∨ s = tS ∨ s = dy) : Wrd.typ s = true := by
  rcases h with rfl | rfl | rfl | rfl | rfl <;> kernel_rfl

theorem un_eq (op s : ByteArray) : unV op s = runV op s := by
  unfold unV runV unK
  by_cases h1 : op = oNot
  · subst h1
    rw [if_pos rfl, if_neg (by decide), if_pos rfl]
    show (if Wrd.typ s = false then bad 7 else one e0 tB [] s) = _
    rw [one_eq]
    by_cases hd : s = dy
    · subst hd; rw [if_neg (by rw [typ_of (by simp)]; decide), if_pos rfl, if_pos (by decide)]; rfl
    · by_cases hb : tB = s
      · subst hb; rw [if_neg (by rw [typ_of (by simp)]; decide), if_neg hd, if_pos (.inl rfl), if_pos (by decide)]; rfl
      · have g1 : ¬ (tB = s ∨ has [] s = true) := by simp [hb, has, Wrd.has]
        have g2 : ¬ (has [tB, dy] s = true) := by simp [has, Wrd.has, hb]; exact fun e => hd e.symm
        rw [if_neg hd, if_neg g1, if_neg g2, ite_self]
  · rw [if_neg h1]
    by_cases h2 : op = oSub
    · subst h2
      rw [if_pos rfl, if_pos rfl]
      show (if Wrd.typ s = false then bad 7 else one e0 tI [tR] s) = _
      rw [one_eq]
      by_cases hd : s = dy
      · subst hd; rw [if_neg (by rw [typ_of (by simp)]; decide), if_pos rfl, if_neg (by decide), if_pos rfl]; rfl
      · by_cases hi : tI = s
        · subst hi; rw [if_neg (by rw [typ_of (by simp)]; decide), if_neg hd, if_pos (.inl rfl), if_pos (by decide)]; rfl
        · by_cases hr : tR = s
          · subst hr; rw [if_neg (by rw [typ_of (by simp)]; decide), if_neg hd, if_pos (.inr (by decide)), if_pos (by decide)]; rfl
          · have g1 : ¬ (tI = s ∨ has [tR] s = true) := by simp [hi, hr, has, Wrd.has]
            have g2 : ¬ (has [tI, tR] s = true) := by simp [has, Wrd.has, hi, hr]
            rw [if_neg hd, if_neg g1, if_neg g2, ite_self, if_neg hd]
    · rw [if_neg h2, if_neg h2, if_neg h1]
theorem conv_one (op s t res : ByteArray) (ht : t = tI ∨ t = tR ∨ t = tS) (hr : res ≠ e0) : (if Wrd.typ s = false then bad 7 else one res t [] s) = if s = t ∨ s = dy then ⟨t, res, false, 0⟩ else bad 7 := by
  rw [one_eq, ors res _ hr]
  have htd : t ≠ dy := by rcases ht with rfl | rfl | rfl <;> decide
  by_cases hd : s = dy
  · subst hd; rw [if_neg (by rw [typ_of (by simp)]; decide), if_pos rfl, if_pos (.inr rfl), decide_eq_false htd]
  · by_cases h : t = s
    · subst h
      rw [if_neg (by rw [typ_of (by rcases ht with h | h | h <;> simp [h])]; decide), if_neg hd, if_pos (.inl rfl), if_pos (.inl rfl), decide_eq_false htd, ors res _ hr]
    · have g1 : ¬ (t = s ∨ has [] s = true) := by simp [h, has, Wrd.has]
      have g2 : ¬ (s = t ∨ s = dy) := by
        intro e
        rcases e with e | e
        · exact h e.symm
        · exact hd e
      rw [if_neg hd, if_neg g1, if_neg g2, ite_self]
theorem conv_eq (op s : ByteArray) : convV op s = rconv op s := by
  unfold convV rconv convK
  by_cases h1 : op = cLen
  · subst h1; rw [if_pos rfl, if_neg (by decide), if_neg (by decide), if_pos rfl]; exact conv_one cLen s tS tI (by simp) (by decide)
  · rw [if_neg h1]
    by_cases h2 : op = tI
    · subst h2; rw [if_pos rfl, if_neg (by decide), if_pos rfl]; exact conv_one tI s tR tI (by simp) (by decide)
    · rw [if_neg h2]
      by_cases h3 : op = tR
      · subst h3; rw [if_pos rfl, if_pos rfl]; exact conv_one tR s tI tR (by simp) (by decide)
      · rw [if_neg h3, if_neg h3, if_neg h2, if_neg h1]
end Go.Proofs.YtcaailiijmjdlaaGreatDoor.Zp
namespace Go.Proofs.YtcaailiijmjdlaaGreatDoor
open Go.ChangeShapes Go.WideShapes Go.ChangeAt Go.RowKit
attribute [local go_sem] Oper.semAt_some
open Zp (e0 dy R bad tI tR tB tS oOr oAnd oEq oNe oLt oLe oAdd oSub oMul oDiv oMod oNot cLen takes)

theorem teqL (s : ByteArray) (a : Array UInt8) : (s.toList == a.toList) = decide (s = ⟨a⟩) := by
  have := teqB s ⟨a⟩
  rw [ByteArray.toList_eq ⟨a⟩] at this
  exact this

theorem ramong_c (s : ByteArray) (a : Option Addr) (n c : Nat) (l : List ByteArray) (w : World) (h : TxR w (.slice a n c) l) :
    Calls Tryz.prog 45 #[.string s, .slice a n c] w fun e w' => e = .returned (.bool (Wrd.has l s)) ∧ w' = w := by
  obtain rfl : n = l.length := by obtain ⟨_, _, e, _⟩ := h; injection e
  have hcap : l.length ≤ maxLen := Row.len h
  obtain ⟨_, _, e0, _, _, hat⟩ := h
  injection e0 with e1 e2 e3
  subst e1 e3
  clear e2
  have HAT := Lib.hid hat
  clear hat
  unfold maxLen at hcap
  go_enter Tryz.func45, Tryz.ntmps45
  go_wp2_with fail
  go_loopw [5] (fun i wr => ∃ k : Nat, i = .int .i64 k ∧ k ≤ l.length ∧ Hid (s ∉ l.take k) ∧ wr = w) (fun i wr => l.length - (intOf i).toNat)
  case atStart => exact ⟨0, rfl, Nat.zero_le _, Lib.hid (by simp), rfl⟩
  case round =>
    obtain ⟨k, rfl, hk, HN, rfl⟩ := hrel
    by_cases hlt : k < l.length
    · have hltI : (k : Int) < (l.length : Int) := by omega
      have hx : l[k]? = some l[k] := List.getElem?_eq_getElem hlt
      generalize hy : l[k] = y at hx
      obtain ⟨b, o, rfl, hc⟩ := HAT.out k y hx
      unfold TxB at hc
      rw [Nat.mul_one] at hc
      have HX := Lib.hid hx
      clear hx hy
      by_cases hxy : y = s
      · have hb := teq_yes hxy
        have HD := Lib.hid (show Wrd.has l s = true by rw [wrd_has, ← hxy]; exact List.mem_of_getElem? HX.out)
        clear hxy
        go_wp2_with fail
        go_ret
        exact ⟨congrArg (fun z => Ending.returned (.bool z)) HD.out.symm, rfl⟩
      · have hb := teq_no hxy
        have HN2 := Lib.hid (show s ∉ l.take (k + 1) by
          rw [List.take_add_one, HX.out]
          simp only [Option.toList_some, List.mem_append, List.mem_singleton, not_or]
          exact ⟨HN.out, fun e => hxy e.symm⟩)
        clear hxy
        go_wp2_with fail
        go_roundw
        case rel => exact ⟨k + 1, by go_num, by omega, HN2, by first | trivial | rfl⟩
        case measure => simp [intOf]; omega
    · obtain rfl : k = l.length := by omega
      have HD := Lib.hid (show Wrd.has l s = false by
        have := HN.out
        rw [List.take_length] at this
        rw [wrd_hasF]; exact this)
      go_wp2_with fail
      go_ret
      exact ⟨congrArg (fun z => Ending.returned (.bool z)) HD.out.symm, rfl⟩

theorem takes_I (op : ByteArray) : takes op tI = Wrd.has [oAdd, oSub, oMul, oDiv, oMod, oLt, oLe] op := by unfold takes; rw [if_pos rfl]
theorem takes_R (op : ByteArray) : takes op tR = Wrd.has [oAdd, oSub, oMul, oDiv, oLt, oLe] op := by unfold takes; rw [if_neg (by decide), if_pos rfl]
theorem takes_S (op : ByteArray) : takes op tS = decide (op = oAdd) := by unfold takes; rw [if_neg (by decide), if_neg (by decide), if_pos rfl]
theorem takes_no (op s : ByteArray) (h1 : ¬ s = tI) (h2 : ¬ s = tR) (h3 : ¬ s = tS) : takes op s = false := by unfold takes; rw [if_neg h1, if_neg h2, if_neg h3]
set_option maxHeartbeats 1000000 in
theorem rtakes_c (op s : ByteArray) (w : World) : Calls Tryz.prog 47 #[.string op, .string s] w fun e w' => e = .returned (.bool (takes op s)) ∧ Kept w w' := by
  by_cases h1 : s = tI
  · subst h1
    obtain ⟨W1, hW1⟩ : ∃ W, w.alloc (.cells #[.string oAdd, .string oSub, .string oMul, .string oDiv, .string oMod, .string oLt, .string oLe] 9) = W := ⟨_, rfl⟩
    have HK := Lib.hid (show Kept w W1 by rw [← hW1]; exact (Kept.refl _).alloc _)
    have HR := Lib.hid (show TxR W1 (.slice (some ⟨w.heap.size, 0, none⟩) 7 7) [oAdd, oSub, oMul, oDiv, oMod, oLt, oLe] by rw [← hW1]; exact TxR.lit (t := 9) [_, _, _, _, _, _, _] (Blk.new _ _ _) (by simp))
    have HW1 := Lib.hid hW1
    rw [takes_I]
    clear hW1
    go_enter Tryz.func47, Tryz.ntmps47
    go_wp2_with (rw [HW1.out])
    refine (ramong_c op _ _ _ _ W1 HR.out).mono ?_
    rintro e w1 ⟨rfl, rfl⟩
    go_wp2_with fail
    go_ret
    exact ⟨rfl, HK.out⟩
  by_cases h2 : s = tR
  · subst h2
    obtain ⟨W1, hW1⟩ : ∃ W, w.alloc (.cells #[.string oAdd, .string oSub, .string oMul, .string oDiv, .string oLt, .string oLe] 9) = W := ⟨_, rfl⟩
    have HK := Lib.hid (show Kept w W1 by rw [← hW1]; exact (Kept.refl _).alloc _)
    have HR := Lib.hid (show TxR W1 (.slice (some ⟨w.heap.size, 0, none⟩) 6 6) [oAdd, oSub, oMul, oDiv, oLt, oLe] by rw [← hW1]; exact TxR.lit (t := 9) [_, _, _, _, _, _] (Blk.new _ _ _) (by simp))
    have HW1 := Lib.hid hW1
    rw [takes_R]
    clear hW1 h1
    go_enter Tryz.func47, Tryz.ntmps47
    go_wp2_with (rw [HW1.out])
    refine (ramong_c op _ _ _ _ W1 HR.out).mono ?_
    rintro e w1 ⟨rfl, rfl⟩
    go_wp2_with fail
    go_ret
    exact ⟨rfl, HK.out⟩
  by_cases h3 : s = tS
  · subst h3
    rw [takes_S]
    have hb := teqL op #[43]
    simp only at hb
    clear h1 h2
    go_enter Tryz.func47, Tryz.ntmps47
    go_wp2_with fail
    go_ret
    exact ⟨rfl, Kept.refl _⟩
  · rw [takes_no op s h1 h2 h3]
    have b1 : (s.toList == [105, 110, 116]) = false := (teqL s #[105, 110, 116]).trans (decide_eq_false h1)
    have b2 : (s.toList == [114, 101, 97, 108]) = false := (teqL s #[114, 101, 97, 108]).trans (decide_eq_false h2)
    have b3 : (s.toList == [115, 116, 114]) = false := (teqL s #[115, 116, 114]).trans (decide_eq_false h3)
    clear h1 h2 h3
    go_enter Tryz.func47, Tryz.ntmps47
    go_wp2_with fail
    go_ret
    exact ⟨rfl, Kept.refl _⟩
end Go.Proofs.YtcaailiijmjdlaaGreatDoor
