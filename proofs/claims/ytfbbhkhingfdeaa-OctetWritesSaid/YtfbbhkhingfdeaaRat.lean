/- Contracts of octet's reader: valid, sound, the attempts, Num. -/
import Derived.Test.YtfbbhkhingfdeaaRnu
set_option linter.unusedSimpArgs false
set_option linter.unusedVariables false
namespace Go.Proofs.Ytfbbhkhingfdeaa
open Go.ChangeShapes Go.WideShapes Go.ChangeAt Go.RowKit

/-- A reader that nobody made. -/
def BadR (w : World) (q : Option Addr) : Prop := q = none ∨ ∃ b, q = some ⟨b, 0, none⟩ ∧ w.cell? ⟨b, 0, none⟩ = some (.pointer none)

theorem ptr_same (b : Nat) (w : World) : (binOp .eql 45 (.pointer (some ⟨b, 0, none⟩)) (.pointer (some ⟨b, 0, none⟩))).run Try.prog w = .ok (.bool true) w := by
  have hz : (sizeOf 49).run Try.prog w = .ok 5 w := by kernel_rfl
  have hr : ∀ n, (Op.equalIn (n + 1) 45 (.pointer (some ⟨b, 0, none⟩)) (.pointer (some ⟨b, 0, none⟩))).run Try.prog w = .ok true w := fun n => by
    simp [Op.equalIn, run_underlying Try.underlying45, hz, sameAddr]
  have h := hr 9999
  simp only [binOp]
  simp [Op.equal, Op.maxDepth, h]

theorem ptr_not (b : Nat) (w : World) : (binOp .eql 45 (.pointer none) (.pointer (some ⟨b, 0, none⟩))).run Try.prog w = .ok (.bool false) w := by
  have hr : ∀ n, (Op.equalIn (n + 1) 45 (.pointer none) (.pointer (some ⟨b, 0, none⟩))).run Try.prog w = .ok false w := fun n => by
    simp [Op.equalIn, run_underlying Try.underlying45]
  have h := hr 9999
  simp only [binOp]
  simp [Op.equal, Op.maxDepth, h]

theorem validR_t (b : Nat) (s : ByteArray) (p : Nat) (e : Int) (a : Nat) (w : World) (hb : Blk w b 49 (rcells b s p e a)) :
    Calls Try.prog 44 #[.pointer (some ⟨b, 0, none⟩)] w fun r w' => r = .returned (.bool true) ∧ w = w' := by
  have c0 := hb.cell 0
  simp at c0
  clear hb
  have hq := ptr_same b
  go_enter Try.func44, Try.ntmps44
  go_wp2
  go_ret
  exact ⟨rfl, rfl⟩

theorem validR_f (q : Option Addr) (w : World) (h : BadR w q) :
    Calls Try.prog 44 #[.pointer q] w fun r w' => r = .returned (.bool false) ∧ w = w' := by
  have hq := ptr_not
  rcases h with rfl | ⟨b, rfl, hc⟩
  all_goals
    go_enter Try.func44, Try.ntmps44
    go_wp2
    go_ret
    exact ⟨rfl, rfl⟩

theorem soundR_t (b : Nat) (s : ByteArray) (p a : Nat) (w : World) (hb : Blk w b 49 (rcells b s p 0 a)) :
    Calls Try.prog 43 #[.pointer (some ⟨b, 0, none⟩)] w fun r w' => r = .returned (.bool true) ∧ w = w' := by
  have H := Lib.hid (validR_t b s p 0 a w hb)
  have c3 := hb.cell 3
  simp at c3
  clear hb
  go_enter Try.func43, Try.ntmps43
  go_wp2_with fail
  refine H.out.mono ?_
  rintro r w' ⟨rfl, rfl⟩
  go_wp2
  go_ret
  exact ⟨rfl, rfl⟩

theorem soundR_e (b : Nat) (s : ByteArray) (p : Nat) (e : Int) (a : Nat) (w : World) (he : e ≠ 0) (hb : Blk w b 49 (rcells b s p e a)) :
    Calls Try.prog 43 #[.pointer (some ⟨b, 0, none⟩)] w fun r w' => r = .returned (.bool false) ∧ w = w' := by
  have H := Lib.hid (validR_t b s p e a w hb)
  have c3 := hb.cell 3
  simp at c3
  have he' : (e == 0) = false := by simpa using he
  clear hb he
  go_enter Try.func43, Try.ntmps43
  go_wp2_with fail
  refine H.out.mono ?_
  rintro r w' ⟨rfl, rfl⟩
  go_wp2
  go_ret
  exact ⟨rfl, rfl⟩

theorem soundR_f (q : Option Addr) (w : World) (h : BadR w q) :
    Calls Try.prog 43 #[.pointer q] w fun r w' => r = .returned (.bool false) ∧ w = w' := by
  have H := Lib.hid (validR_f q w h)
  clear h
  go_enter Try.func43, Try.ntmps43
  go_wp2_with fail
  refine H.out.mono ?_
  rintro r w' ⟨rfl, rfl⟩
  go_wp2
  go_ret
  exact ⟨rfl, rfl⟩

theorem numV_at (l : List UInt8) (p : Nat) : Oct.numV l (p, 0, 0) = (Oct.scan 0 (l.drop p)).2.1 := by unfold Oct.numV; rw [if_neg (by simp)]
theorem numS_ok {l : List UInt8} {p : Nat} (h : (Oct.scan 0 (l.drop p)).1 = 0) : Oct.numS l (p, 0, 0) = (p + (Oct.scan 0 (l.drop p)).2.2, 0, 0) := by
  unfold Oct.numS; rw [if_neg (by simp), if_pos h]
theorem numS_bad {l : List UInt8} {p : Nat} (h : (Oct.scan 0 (l.drop p)).1 ≠ 0) : Oct.numS l (p, 0, 0) = (p, (Oct.scan 0 (l.drop p)).1, p) := by
  unfold Oct.numS; rw [if_neg (by simp), if_neg h]
theorem scan_bad {l : List UInt8} (h : (Oct.scan 0 l).1 ≠ 0) : (Oct.scan 0 l).2.1 = 0 := by
  rcases Oct.scan_err 0 l with k | k | k
  · exact absurd k h
  · rw [k.2]
  · rw [k.2]

/-- A block that the call laid, behind what turned another one. -/
theorem new_only {b : Nat} {w w1 : World} {t : TypeId} {cs : Array Value} (hb : b < w.heap.size) (ho : Only (· = b) (w.alloc (.cells cs t)) w1) : Blk w1 w.heap.size t cs :=
  (Blk.new w t cs).only ho (by omega)
theorem only_new {S : Nat → Prop} {w w1 : World} {o : Obj} (ho : Only S (w.alloc o) w1) : Only S w w1 := ((Only.refl S w).alloc o).trans ho

set_option maxHeartbeats 800000 in
theorem attI_c (b : Nat) (s : ByteArray) (p : Nat) (w : World) (hs : s.size ≤ maxLen) (hp : p ≤ s.size) (hb : Blk w b 49 (rcells b s p 0 0)) :
    Calls Try.prog 38 #[.pointer (some ⟨b, 0, none⟩), .func (.func 39) #[.pointer (some ⟨b, 0, none⟩)] #[]] w fun r w' =>
      r = .returned (.int .i64 (Oct.numV s.data.toList (p, 0, 0))) ∧ Only (· = b) w w' ∧ Blk w' b 49 (rcells b s (Oct.numS s.data.toList (p, 0, 0)).1 (Oct.numS s.data.toList (p, 0, 0)).2.1 (Oct.numS s.data.toList (p, 0, 0)).2.2) := by
  have hmf : ∀ (fn : Fn) (first cap : Array Value) (w : World), (Instr.makeFunc fn first cap).run Try.prog w = .ok (.func fn first cap) w := fun _ _ _ _ => rfl
  have hb1 := hb.alloc (.cells #[.pointer (some ⟨b, 0, none⟩)] 45)
  have HS := Lib.hid (soundR_t b s p 0 _ hb1)
  have HN := Lib.hid (number_c b s p _ hs hp hb1)
  have HB := Lib.hid hb
  have hlt := hb.lt
  clear hb hb1 hs hp
  go_enter_defers Try.func38, Try.ntmps38
  go_wp2_with fail
  refine HS.out.mono ?_
  rintro r w' ⟨rfl, rfl⟩
  go_wp2_with fail
  refine HN.out.mono ?_
  rintro r w1 (⟨h0, rfl, ho, hb1⟩ | ⟨h0, rfl, ho, hb1⟩)
  · have hc := (new_only hlt ho).cell 0
    simp at hc
    have HC := Lib.hid (catchI_none w.heap.size b w1 hc)
    have H0 := Lib.hid h0
    clear hc h0 HS HN HB
    go_wp2_with fail
    refine leaves_cons (f := 46) (args := #[.pointer (some ⟨w.heap.size, 0, none⟩)]) (by simp) (by simp [go_sem]) ?_
    refine HC.out.mono ?_
    rintro r u' w2 ⟨rfl, rfl, hk⟩
    exact ⟨_, results_tmp rfl _ _ _, (by rw [numV_at]; try rfl), (only_new ho).trans (Only.of_kept hk), (by rw [numS_ok H0.out]; exact hb1.kept hk)⟩
  · have hc := (new_only hlt ho).cell 0
    simp at hc
    have HC := Lib.hid (catchI_some w.heap.size b (Oct.scan 0 (s.data.toList.drop p)).1 p (.pointer (some ⟨b, 0, none⟩)) (.string s) (.int .i64 p) w1 hc hb1)
    have H0 := Lib.hid h0
    clear hc h0 HS HN HB
    go_wp2_with fail
    refine leaves_cons (f := 46) (args := #[.pointer (some ⟨w.heap.size, 0, none⟩)]) (by simp) (by simp [go_sem]) ?_
    refine HC.out.mono ?_
    rintro r u' w2 ⟨rfl, hu, ho2, hb2⟩
    show Leaves _ _ _ _ _ (settle u') w2
    rw [hu]
    exact ⟨_, results_tmp rfl _ _ _, (by rw [numV_at, scan_bad H0.out]; try rfl), (only_new ho).trans ho2, (by rw [numS_bad H0.out]; exact hb2)⟩
end Go.Proofs.Ytfbbhkhingfdeaa
