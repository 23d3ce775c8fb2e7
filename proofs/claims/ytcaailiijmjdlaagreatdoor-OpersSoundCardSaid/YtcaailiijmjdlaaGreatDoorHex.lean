/- Plain facts on hexadecimal digits: what a digit stands for, what a list of digits stands for, and the sixteen digits of a number. -/
import Derived.Test.YtcaailiijmjdlaaGreatDoorFlb
set_option linter.unusedSimpArgs false
set_option linter.unusedVariables false
namespace Go.Proofs.YtcaailiijmjdlaaGreatDoor
namespace Hex

def dg (c : Nat) : Option Nat := if 48 ≤ c ∧ c ≤ 57 then some (c - 48) else if 97 ≤ c ∧ c ≤ 102 then some (c - 87) else none
def step (o : Option Nat) (c : UInt8) : Option Nat := match o with
  | none => none
  | some a => match dg c.toNat with
    | none => none
    | some d => some (16 * a + d)
def val (l : List UInt8) : Option Nat := l.foldl step (some 0)

theorem dg_lt {c d : Nat} (h : dg c = some d) : d < 16 := by
  unfold dg at h; split at h
  · cases h; omega
  · split at h
    · cases h; omega
    · cases h

theorem val_snoc (l : List UInt8) (c : UInt8) : val (l ++ [c]) = step (val l) c := by
  unfold val; rw [List.foldl_append]; rfl

theorem val_lt : ∀ (n : Nat) (l : List UInt8) (a : Nat), l.length = n → val l = some a → a < 16 ^ n := by
  intro n
  induction n with
  | zero =>
    intro l a hl h
    have : l = [] := List.length_eq_zero_iff.1 hl
    subst this
    cases h; decide
  | succ n ih =>
    intro l a hl h
    have hne : l ≠ [] := by rintro rfl; cases hl
    rw [← List.dropLast_concat_getLast hne, val_snoc] at h
    have hlen : l.dropLast.length = n := by rw [List.length_dropLast]; omega
    cases hv : val l.dropLast with
    | none => rw [hv] at h; cases h
    | some b =>
      rw [hv] at h
      unfold step at h
      cases hd : dg (l.getLast hne).toNat with
      | none => rw [hd] at h; cases h
      | some d =>
        rw [hd] at h
        cases h
        have h1 := ih _ b hlen hv
        have h2 := dg_lt hd
        rw [Nat.pow_succ]; omega

theorem foldl_none (l : List UInt8) : l.foldl step none = none := by
  induction l with
  | nil => rfl
  | cons c l ih => exact ih

/-- A beginning that is none: nor is the whole. -/
theorem val_none_of_take (l : List UInt8) (k : Nat) (h : val (l.take k) = none) : val l = none := by
  unfold val at *
  rw [← List.take_append_drop k l, List.foldl_append, h, foldl_none]

theorem take_snoc (s : ByteArray) (k : Nat) (h : k < s.size) : s.data.toList.take (k + 1) = s.data.toList.take k ++ [s[k]] := by
  rw [List.take_succ_eq_append_getElem (by simpa using h)]; rfl

def hx (d : Nat) : UInt8 := UInt8.ofNat (if d < 10 then 48 + d else 87 + d)
/-- The n low digits of a number. -/
def lowd : Nat → Nat → List UInt8
  | 0, _ => []
  | n + 1, u => hx (u / 16 ^ n % 16) :: lowd n u

theorem lowd_length (n u : Nat) : (lowd n u).length = n := by
  induction n with
  | zero => rfl
  | succ n ih => show (lowd n u).length + 1 = n + 1; rw [ih]

theorem lowd_more (n j u : Nat) (h : u / 16 ^ n = 0) : lowd (j + n) u = List.replicate j 48 ++ lowd n u := by
  induction j with
  | zero => rw [Nat.zero_add]; rfl
  | succ j ih =>
    rw [show j + 1 + n = (j + n) + 1 from by omega]
    show hx (u / 16 ^ (j + n) % 16) :: lowd (j + n) u = _
    rw [ih]
    have : u / 16 ^ (j + n) = 0 := by
      rw [Nat.add_comm, Nat.pow_add, ← Nat.div_div_eq_div_mul, h, Nat.zero_div]
    rw [this]
    rfl

end Hex
end Go.Proofs.YtcaailiijmjdlaaGreatDoor
