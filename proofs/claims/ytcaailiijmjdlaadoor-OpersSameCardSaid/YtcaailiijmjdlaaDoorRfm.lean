/- The document's answers for words: Name, Class, Base, Key, Kind, Type, Tag and OfTag. What was in the world stays as it was. -/
import Derived.Test.YtcaailiijmjdlaaDoorRfn
set_option linter.unusedSimpArgs false
set_option linter.unusedVariables false
namespace Go.Proofs.YtcaailiijmjdlaaDoor
open Go.ChangeShapes Go.WideShapes Go.ChangeAt Go.RowKit

theorem len_bs : Wrd.bs.length = 5 := rfl
theorem len_ws' : Wrd.ws.length = 24 := rfl

theorem kd0 {c : UInt8} : (Wrd.kd c == 0) = Wrd.smB c.toNat := by
  unfold Wrd.kd
  cases Wrd.smB c.toNat <;> cases Wrd.caB c.toNat <;> cases Wrd.diB c.toNat <;> rfl
theorem kd1 {c : UInt8} : (Wrd.kd c == 1) = Wrd.caB c.toNat := by
  unfold Wrd.kd
  have h : Wrd.caB c.toNat = true → Wrd.smB c.toNat = false := by
    unfold Wrd.caB Wrd.smB
    simp
    omega
  cases h1 : Wrd.caB c.toNat
  · cases Wrd.smB c.toNat <;> cases Wrd.diB c.toNat <;> rfl
  · rw [h h1]; rfl

theorem kind_cases (s : ByteArray) : Wrd.kind s = 0 ∨ Wrd.kind s = 1 ∨ Wrd.kind s = 2 ∨ Wrd.kind s = 3 := by
  unfold Wrd.kind
  split
  · simp
  · split
    · simp
    · split <;> simp

theorem tagF_none {s : ByteArray} : ∀ {l : List ByteArray} {d : Nat}, s ∉ l → Wrd.tagF l d s = 0
  | [], _, _ => rfl
  | b :: r, d, h => by
    rw [tagF_no (by rintro rfl; simp at h)]
    exact tagF_none (fun e => h (List.mem_cons_of_mem _ e))
theorem tagF_at {s : ByteArray} : ∀ {l : List ByteArray} {d k : Nat} (hk : k < l.length), s ∉ l.take k → l[k] = s → Wrd.tagF l d s = d + k
  | b :: r, d, 0, _, _, e => tagF_yes e
  | b :: r, d, k + 1, hk, h, e => by
    simp only [List.take_succ_cons, List.mem_cons, not_or] at h
    rw [tagF_no (fun e => h.1 e.symm), tagF_at (k := k) (by simpa using hk) h.2 (by simpa using e)]
    omega

/-- What the document's Tag answers. -/
def TagRPost (s : ByteArray) (w : World) (e : Ending) (w' : World) : Prop :=
  e = .returned (.tuple #[.int .i64 (Wrd.tag s), .int .i64 (Wrd.tagE s)]) ∧ Kept w w'

theorem oft_out {n : Int} (h : n < 1 ∨ 5 < n) : Wrd.ofT n = ⟨#[]⟩ ∧ Wrd.ofE n = 7 := by
  have : Wrd.ofF Wrd.bs 1 n = (⟨#[]⟩, 7) := by
    unfold Wrd.bs
    simp only [Wrd.ofF]
    rw [if_neg (by omega), if_neg (by omega), if_neg (by omega), if_neg (by omega), if_neg (by omega)]
  unfold Wrd.ofT Wrd.ofE
  rw [this]
  exact ⟨rfl, rfl⟩

def OfRPost (n : Int) (w : World) (e : Ending) (w' : World) : Prop :=
  e = .returned (.tuple #[.string (Wrd.ofT n), .int .i64 (Wrd.ofE n)]) ∧ Kept w w'

end Go.Proofs.YtcaailiijmjdlaaDoor
