/- Contracts of octet's reader, method by method: a reader that was made, and one that nobody made. -/
import Derived.Test.YtfbbhkhingfdeaaRtx
set_option linter.unusedSimpArgs false
set_option linter.unusedVariables false
namespace Go.Proofs.Ytfbbhkhingfdeaa
open Go.ChangeShapes Go.WideShapes Go.ChangeAt Go.RowKit

/-- A reader that was made, and where it stands. -/
def Rd (w : World) (b : Nat) (s : ByteArray) (t : Oct.Rs) : Prop := Blk w b 49 (rcells b s t.1 t.2.1 t.2.2) ∧ Oct.good s.data.toList t ∧ s.size ≤ maxLen

theorem Rd.only {S : Nat → Prop} {w w' : World} {b : Nat} {s : ByteArray} {t : Oct.Rs} (h : Rd w b s t) (k : Only S w w') (hs : ¬ S b) : Rd w' b s t := ⟨h.1.only k hs, h.2⟩
theorem Rd.kept {w w' : World} {b : Nat} {s : ByteArray} {t : Oct.Rs} (h : Rd w b s t) (k : Kept w w') : Rd w' b s t := ⟨h.1.kept k, h.2⟩
theorem Rd.lt {w : World} {b : Nat} {s : ByteArray} {t : Oct.Rs} (h : Rd w b s t) : b < w.heap.size := h.1.lt
theorem Rd.place {w : World} {b : Nat} {s : ByteArray} {t : Oct.Rs} (h : Rd w b s t) : t.1 ≤ s.size := by have := h.2.1.1; rwa [len_data] at this

theorem BadR.kept {w w' : World} {q : Option Addr} (h : BadR w q) (k : Kept w w') : BadR w' q := by
  rcases h with rfl | ⟨b, rfl, hc⟩
  · exact .inl rfl
  · exact .inr ⟨b, rfl, k.cell hc⟩

theorem attI_no (q : Option Addr) (f : Value) (w : World) (hS : ∀ w', Kept w w' → Calls Try.prog 43 #[.pointer q] w' fun r w'' => r = .returned (.bool false) ∧ w' = w'') :
    Calls Try.prog 38 #[.pointer q, f] w fun r w' => r = .returned (.int .i64 0) ∧ Kept w w' := by
  have HS := Lib.hid (hS _ ((Kept.refl w).alloc (.cells #[.pointer q] 45)))
  clear hS
  go_enter_defers Try.func38, Try.ntmps38
  go_wp2_with fail
  refine HS.out.mono ?_
  rintro r w' ⟨rfl, rfl⟩
  go_wp2_with fail
  exact ⟨_, results_tmp rfl _ _ _, rfl, (Kept.refl w).alloc _⟩

theorem attS_no (q : Option Addr) (f : Value) (w : World) (hS : ∀ w', Kept w w' → Calls Try.prog 43 #[.pointer q] w' fun r w'' => r = .returned (.bool false) ∧ w' = w'') :
    Calls Try.prog 40 #[.pointer q, f] w fun r w' => r = .returned (.string ⟨#[]⟩) ∧ Kept w w' := by
  have HS := Lib.hid (hS _ ((Kept.refl w).alloc (.cells #[.pointer q] 45)))
  clear hS
  go_enter_defers Try.func40, Try.ntmps40
  go_wp2_with fail
  refine HS.out.mono ?_
  rintro r w' ⟨rfl, rfl⟩
  go_wp2_with fail
  exact ⟨_, results_tmp rfl _ _ _, rfl, (Kept.refl w).alloc _⟩

theorem numR_go (q : Option Addr) (v : Int) (w : World) (Po : World → Prop) (h : Calls Try.prog 38 #[.pointer q, .func (.func 39) #[.pointer q] #[]] w fun r w' => r = .returned (.int .i64 v) ∧ Po w') :
    Calls Try.prog 22 #[.pointer q] w fun r w' => r = .returned (.int .i64 v) ∧ Po w' := by
  have hmf : ∀ (fn : Fn) (first cap : Array Value) (w : World), (Instr.makeFunc fn first cap).run Try.prog w = .ok (.func fn first cap) w := fun _ _ _ _ => rfl
  have H := Lib.hid h
  clear h
  go_enter Try.func22, Try.ntmps22
  go_wp2_with fail
  refine H.out.mono ?_
  rintro r w' ⟨rfl, hp⟩
  go_wp2_with fail
  go_ret
  exact ⟨rfl, hp⟩

theorem numR_c (b : Nat) (s : ByteArray) (t : Oct.Rs) (w : World) (h : Rd w b s t) :
    Calls Try.prog 22 #[.pointer (some ⟨b, 0, none⟩)] w fun r w' => r = .returned (.int .i64 (Oct.numV s.data.toList t)) ∧ Only (· = b) w w' ∧ Rd w' b s (Oct.numS s.data.toList t) := by
  refine numR_go _ _ w _ ?_
  obtain ⟨p, e, a⟩ := t
  obtain ⟨hb, hg, hs⟩ := h
  have hp : p ≤ s.size := by have := hg.1; rwa [len_data] at this
  by_cases he : e = 0
  · subst he
    obtain rfl : a = 0 := hg.2.2 rfl
    exact (attI_c b s p w hs hp hb).mono fun r w' ⟨h1, h2, h3⟩ => ⟨h1, h2, h3, Oct.good_num hg, hs⟩
  · have e1 : Oct.numV s.data.toList (p, e, a) = 0 := by unfold Oct.numV; rw [if_pos he]
    have e2 : Oct.numS s.data.toList (p, e, a) = (p, e, a) := by unfold Oct.numS; rw [if_pos he]
    rw [e1, e2]
    exact (attI_no _ _ w fun w' k => soundR_e b s p e a w' he (hb.kept k)).mono fun r w' ⟨h1, h2⟩ => ⟨h1, Only.of_kept h2, hb.kept h2, hg, hs⟩

theorem numR_f (q : Option Addr) (w : World) (h : BadR w q) : Calls Try.prog 22 #[.pointer q] w fun r w' => r = .returned (.int .i64 0) ∧ Kept w w' :=
  numR_go _ _ w _ (attI_no _ _ w fun w' k => soundR_f q w' (h.kept k))

theorem wholeR_go (q : Option Addr) (n : Nat) (w : World) (Po : World → Prop) (hn : n < 9223372036854775808) (h : Calls Try.prog 22 #[.pointer q] w fun r w' => r = .returned (.int .i64 n) ∧ Po w') :
    Calls Try.prog 23 #[.pointer q] w fun r w' => r = .returned (.int .i64 (Oct.zag n)) ∧ Po w' := by
  have H := Lib.hid h
  have hn' : (n : Int) ≤ 9223372036854775807 := by omega
  clear h hn
  by_cases ho : n % 2 = 1
  · have HZ := Lib.hid (show Oct.zag n = -1 - ((n / 2 : Nat) : Int) by unfold Oct.zag; rw [if_pos ho])
    have ho' : ((n : Int) % 2 == 1) = true := by simp; omega
    clear ho
    go_enter Try.func23, Try.ntmps23
    go_wp2_with fail
    refine H.out.mono ?_
    rintro r w' ⟨rfl, hp⟩
    go_wp2_with fail
    go_ret
    exact ⟨by rw [HZ.out]; rfl, hp⟩
  · have HZ := Lib.hid (show Oct.zag n = ((n / 2 : Nat) : Int) by unfold Oct.zag; rw [if_neg ho])
    have ho' : ((n : Int) % 2 == 1) = false := by simp; omega
    clear ho
    go_enter Try.func23, Try.ntmps23
    go_wp2_with fail
    refine H.out.mono ?_
    rintro r w' ⟨rfl, hp⟩
    go_wp2_with fail
    go_ret
    exact ⟨by rw [HZ.out]; rfl, hp⟩

theorem numV_lt (l : List UInt8) (t : Oct.Rs) : Oct.numV l t < 9223372036854775808 := by
  unfold Oct.numV
  split
  · decide
  · exact scan_lt _

theorem wholeR_c (b : Nat) (s : ByteArray) (t : Oct.Rs) (w : World) (h : Rd w b s t) :
    Calls Try.prog 23 #[.pointer (some ⟨b, 0, none⟩)] w fun r w' => r = .returned (.int .i64 (Oct.zag (Oct.numV s.data.toList t))) ∧ Only (· = b) w w' ∧ Rd w' b s (Oct.numS s.data.toList t) :=
  wholeR_go _ _ w _ (numV_lt _ _) (numR_c b s t w h)
theorem wholeR_f (q : Option Addr) (w : World) (h : BadR w q) : Calls Try.prog 23 #[.pointer q] w fun r w' => r = .returned (.int .i64 0) ∧ Kept w w' :=
  wholeR_go q 0 w _ (by decide) (numR_f q w h)
end Go.Proofs.Ytfbbhkhingfdeaa
