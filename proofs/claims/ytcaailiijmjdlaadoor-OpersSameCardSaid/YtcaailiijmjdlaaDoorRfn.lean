/- The document's answers for words: word, Name, Class, Base, Key, Kind, Type, Tag and OfTag. What was in the world stays as it was. -/
import Derived.Test.YtcaailiijmjdlaaDoorTxl
set_option linter.unusedSimpArgs false
set_option linter.unusedVariables false
namespace Go.Proofs.YtcaailiijmjdlaaDoor
open Go.ChangeShapes Go.WideShapes Go.ChangeAt Go.RowKit

/-- 1 to 20 letters and digits. -/
def wrd (s : ByteArray) : Bool := decide (1 ≤ s.size) && decide (s.size ≤ 20) && s.data.toList.all (fun c => Wrd.kd c != 3)

theorem spelt_wrd (s : ByteArray) (f : Nat) : Wrd.spelt s f = (wrd s && (Wrd.kd (s.data.toList.headD 0) == f)) := rfl
theorem wrd_pos {s : ByteArray} (h : wrd s = true) : 0 < s.size := by
  unfold wrd at h
  by_cases h1 : 1 ≤ s.size
  · exact h1
  · rw [decide_eq_false h1] at h; cases h
theorem wrd_len {s : ByteArray} (h : s.size < 1 ∨ 20 < s.size) : wrd s = false := by
  unfold wrd
  rcases h with h | h
  · rw [decide_eq_false (show ¬ 1 ≤ s.size by omega)]; rfl
  · rw [decide_eq_false (show ¬ s.size ≤ 20 by omega)]; simp
theorem wrd_at {s : ByteArray} {k : Nat} (hk : k < s.size) (h : Wrd.kd s[k] = 3) : wrd s = false := by
  have : s.data.toList.all (fun c => Wrd.kd c != 3) = false := by
    rw [List.all_eq_false]
    exact ⟨s[k], Wrd.at_mem hk, by rw [h]; decide⟩
  unfold wrd
  rw [this]; simp
theorem wrd_all {s : ByteArray} (h1 : 0 < s.size) (h2 : s.size ≤ 20) (ha : ∀ k (hk : k < s.size), Wrd.kd s[k] ≠ 3) : wrd s = true := by
  have e3 : s.data.toList.all (fun c => Wrd.kd c != 3) = true := by
    rw [List.all_eq_true]
    intro c hc
    obtain ⟨k, hk, rfl⟩ := Wrd.mem_at hc
    simpa using ha k hk
  unfold wrd
  rw [decide_eq_true (show 1 ≤ s.size from h1), decide_eq_true h2, e3]; rfl

/-- The first k letters are letters. -/
def WdR (s : ByteArray) (k : Nat) : Prop := ∀ j (hj : j < s.size), j < k → Wrd.kd s[j] ≠ 3
theorem WdR.next {s : ByteArray} {k : Nat} (h : WdR s k) (hk : k < s.size) (h3 : Wrd.kd s[k] ≠ 3) : WdR s (k + 1) := by
  intro j hj hjk
  by_cases e : j = k
  · subst e; exact h3
  · exact h j hj (by omega)

theorem kd_a {c : UInt8} (h : Wrd.smB c.toNat = true) : Wrd.kd c ≠ 3 := by unfold Wrd.kd; rw [if_pos h]; decide
theorem kd_b {c : UInt8} (ha : Wrd.smB c.toNat = false) (h : Wrd.caB c.toNat = true) : Wrd.kd c ≠ 3 := by unfold Wrd.kd; rw [if_neg (by rw [ha]; decide), if_pos h]; decide
theorem kd_d {c : UInt8} (ha : Wrd.smB c.toNat = false) (hb : Wrd.caB c.toNat = false) (h : Wrd.diB c.toNat = true) : Wrd.kd c ≠ 3 := by unfold Wrd.kd; rw [if_neg (by rw [ha]; decide), if_neg (by rw [hb]; decide), if_pos h]; decide
theorem kd_n {c : UInt8} (ha : Wrd.smB c.toNat = false) (hb : Wrd.caB c.toNat = false) (h : Wrd.diB c.toNat = false) : Wrd.kd c = 3 := by unfold Wrd.kd; rw [ha, hb, h]; rfl

end Go.Proofs.YtcaailiijmjdlaaDoor
