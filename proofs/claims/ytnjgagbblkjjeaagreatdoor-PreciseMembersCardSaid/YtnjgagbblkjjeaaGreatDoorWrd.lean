/- Words, in plain words: which bytes are letters and of which kind, which texts are reserved, which are base types with which tags, which are names, class names and types; and the fields of a text, one byte after another. -/
import Derived.Test.YtnjgagbblkjjeaaGreatDoorRows
set_option linter.unusedSimpArgs false
set_option linter.unusedVariables false
namespace Go.Proofs.YtnjgagbblkjjeaaGreatDoor.Wrd

/-- The reserved words, in their order; the base types, in the order of their tags. -/
def ws : List ByteArray := [⟨#[99, 108, 97, 115, 115]⟩, ⟨#[100, 101, 102]⟩, ⟨#[118, 97, 114]⟩, ⟨#[109, 97, 105, 110]⟩, ⟨#[108, 101, 116]⟩, ⟨#[105, 102]⟩, ⟨#[101, 108, 115, 101]⟩, ⟨#[119, 104, 105, 108, 101]⟩, ⟨#[110, 101, 119]⟩, ⟨#[110, 111, 110, 101]⟩, ⟨#[116, 104, 105, 115]⟩, ⟨#[115, 117, 112, 101, 114]⟩, ⟨#[114, 101, 97, 100]⟩, ⟨#[112, 114, 105, 110, 116]⟩, ⟨#[116, 114, 117, 101]⟩, ⟨#[102, 97, 108, 115, 101]⟩, ⟨#[110, 97, 110]⟩, ⟨#[105, 110, 102]⟩, ⟨#[105, 110, 116]⟩, ⟨#[114, 101, 97, 108]⟩, ⟨#[98, 111, 111, 108]⟩, ⟨#[115, 116, 114]⟩, ⟨#[117, 110, 105, 116]⟩, ⟨#[108, 101, 110]⟩]
def bs : List ByteArray := [⟨#[105, 110, 116]⟩, ⟨#[114, 101, 97, 108]⟩, ⟨#[98, 111, 111, 108]⟩, ⟨#[115, 116, 114]⟩, ⟨#[117, 110, 105, 116]⟩]

/-- The reserved words as one text, blanks between. -/
def rs : ByteArray := ⟨#[99, 108, 97, 115, 115, 32, 100, 101, 102, 32, 118, 97, 114, 32, 109, 97, 105, 110, 32, 108, 101, 116, 32, 105, 102, 32, 101, 108, 115, 101, 32, 119, 104, 105, 108, 101, 32, 110, 101, 119, 32, 110, 111, 110, 101, 32, 116, 104, 105, 115, 32, 115, 117, 112, 101, 114, 32, 114, 101, 97, 100, 32, 112, 114, 105, 110, 116, 32, 116, 114, 117, 101, 32, 102, 97, 108, 115, 101, 32, 110, 97, 110, 32, 105, 110, 102, 32, 105, 110, 116, 32, 114, 101, 97, 108, 32, 98, 111, 111, 108, 32, 115, 116, 114, 32, 117, 110, 105, 116, 32, 108, 101, 110]⟩

/-- Blanks among ASCII. -/
def spB (c : UInt8) : Bool := c == 32 || (9 ≤ c && c ≤ 13)

/-- The kind of a letter: 0 small, 1 capital, 2 a digit, 3 none. -/
def smB (n : Nat) : Bool := decide (97 ≤ n) && decide (n ≤ 122)
def caB (n : Nat) : Bool := decide (65 ≤ n) && decide (n ≤ 90)
def diB (n : Nat) : Bool := decide (48 ≤ n) && decide (n ≤ 57)
def kd (c : UInt8) : Nat := if smB c.toNat then 0 else if caB c.toNat then 1 else if diB c.toNat then 2 else 3

/-- Has a text the length and the letters of a name, the first of them of kind k? -/
def spelt (s : ByteArray) (k : Nat) : Bool := decide (1 ≤ s.size) && decide (s.size ≤ 20) && s.data.toList.all (fun c => kd c != 3) && (kd (s.data.toList.headD 0) == k)

def has (l : List ByteArray) (s : ByteArray) : Bool := l.any fun x => decide (x = s)
def key (s : ByteArray) : Bool := has ws s
def base (s : ByteArray) : Bool := has bs s
def tagF : List ByteArray → Nat → ByteArray → Nat
  | [], _, _ => 0
  | b :: r, k, s => if b = s then k else tagF r (k + 1) s
def tag (s : ByteArray) : Nat := tagF bs 1 s
def tagE (s : ByteArray) : Int := if base s then 0 else 7
def ofF : List ByteArray → Int → Int → ByteArray × Int
  | [], _, _ => (⟨#[]⟩, 7)
  | b :: r, k, n => if k = n then (b, 0) else ofF r (k + 1) n
def ofT (n : Int) : ByteArray := (ofF bs 1 n).1
def ofE (n : Int) : Int := (ofF bs 1 n).2
def name (s : ByteArray) : Bool := spelt s 0 && !key s
def cls (s : ByteArray) : Bool := spelt s 1
def kind (s : ByteArray) : Int := if base s then 1 else if s = ⟨#[63]⟩ then 2 else if cls s then 3 else 0
def typ (s : ByteArray) : Bool := decide (kind s ≠ 0)

theorem mem_at {s : ByteArray} {c : UInt8} (h : c ∈ s.data.toList) : ∃ k, ∃ hk : k < s.size, s[k] = c := by
  obtain ⟨k, hk, e⟩ := List.getElem_of_mem h
  exact ⟨k, by simpa using hk, e⟩
theorem at_mem {s : ByteArray} {k : Nat} (hk : k < s.size) : s[k] ∈ s.data.toList := by
  have : s[k] = s.data.toList[k]'(by simpa using hk) := rfl
  rw [this]; exact List.getElem_mem _
theorem headD_at : ∀ (l : List UInt8) (h : 0 < l.length), l.headD 0 = l[0]
  | a :: r, _ => rfl
theorem head_at {s : ByteArray} (hk : 0 < s.size) : s.data.toList.headD 0 = s[0] :=
  headD_at s.data.toList (by simpa using hk)
theorem spelt_len {s : ByteArray} {f : Nat} (h : s.size < 1 ∨ 20 < s.size) : spelt s f = false := by
  unfold spelt
  rcases h with h | h
  · have : decide (1 ≤ s.size) = false := decide_eq_false (by omega)
    rw [this]; rfl
  · have : decide (s.size ≤ 20) = false := decide_eq_false (by omega)
    rw [this]; simp
theorem spelt_at {s : ByteArray} {f k : Nat} (hk : k < s.size) (h : kd s[k] = 3) : spelt s f = false := by
  have : s.data.toList.all (fun c => kd c != 3) = false := by
    rw [List.all_eq_false]
    exact ⟨s[k], at_mem hk, by rw [h]; decide⟩
  unfold spelt
  rw [this]; simp
theorem spelt_first {s : ByteArray} {f : Nat} (hk : 0 < s.size) (h : kd s[0] ≠ f) : spelt s f = false := by
  unfold spelt
  rw [head_at hk]
  have : (kd s[0] == f) = false := by simpa using h
  rw [this]; simp
theorem spelt_all {s : ByteArray} {f : Nat} (h1 : 0 < s.size) (h2 : s.size ≤ 20) (ha : ∀ k (hk : k < s.size), kd s[k] ≠ 3) (h0 : kd s[0] = f) : spelt s f = true := by
  unfold spelt
  rw [head_at h1, h0]
  have e1 : decide (1 ≤ s.size) = true := decide_eq_true h1
  have e2 : decide (s.size ≤ 20) = true := decide_eq_true h2
  have e3 : s.data.toList.all (fun c => kd c != 3) = true := by
    rw [List.all_eq_true]
    intro c hc
    obtain ⟨k, hk, rfl⟩ := mem_at hc
    simpa using ha k hk
  rw [e1, e2, e3]; simp

/-! ### Fields -/
/-- Behind the first k bytes: where a field began, and the fields so far. -/
def st (s : ByteArray) : Nat → Option Nat × List ByteArray
  | 0 => (none, [])
  | k + 1 => match st s k with
    | (none, pre) => if spB (s.data.toList.getD k 0) then (none, pre) else (some k, pre)
    | (some b, pre) => if spB (s.data.toList.getD k 0) then (none, pre ++ [s.extract b k]) else (some b, pre)
def flds (s : ByteArray) : List ByteArray := match st s s.size with
  | (none, pre) => pre
  | (some b, pre) => pre ++ [s.extract b s.size]

theorem st_lt (s : ByteArray) : ∀ (k b : Nat) (pre : List ByteArray), st s k = (some b, pre) → b < k
  | 0, _, _, h => by cases h
  | k + 1, b, pre, h => by
    unfold st at h
    split at h
    · split at h
      · cases h
      · cases h; omega
    · rename_i b' pre' h'
      have := st_lt s k b' pre' h'
      split at h
      · cases h
      · cases h; omega

theorem st_next (s : ByteArray) (k : Nat) : (st s k).2 <+: (st s (k + 1)).2 := by
  conv => rhs; unfold st
  split
  · rename_i h; rw [h]; split <;> exact List.prefix_refl _
  · rename_i h; rw [h]; split
    · exact List.prefix_append _ _
    · exact List.prefix_refl _
theorem st_mono (s : ByteArray) (k : Nat) : ∀ d, (st s k).2 <+: (st s (k + d)).2
  | 0 => List.prefix_refl _
  | d + 1 => (st_mono s k d).trans (st_next s (k + d))
theorem st_flds (s : ByteArray) {k : Nat} (h : k ≤ s.size) : (st s k).2 <+: flds s := by
  have h1 := st_mono s k (s.size - k)
  rw [show k + (s.size - k) = s.size by omega] at h1
  refine h1.trans ?_
  unfold flds
  split
  · rename_i h; rw [h]; exact List.prefix_refl _
  · rename_i h; rw [h]; exact List.prefix_append _ _

theorem has_iff {l : List ByteArray} {s : ByteArray} : has l s = true ↔ s ∈ l := by
  unfold has; rw [List.any_eq_true]
  constructor
  · rintro ⟨x, hx, h⟩; rw [← of_decide_eq_true h]; exact hx
  · intro h; exact ⟨s, h, decide_eq_true rfl⟩
theorem has_no {l : List ByteArray} {s : ByteArray} (h : s ∉ l) : has l s = false := by
  cases e : has l s with
  | false => rfl
  | true => exact absurd (has_iff.1 e) h

theorem flds_rs : flds rs = ws := by kernel_rfl
theorem ascii_rs : ∀ c ∈ rs.data.toList, c.toNat < 128 := by decide +kernel
theorem size_rs : rs.size ≤ 9223372036854775807 := by decide +kernel
theorem len_ws : ws.length = 24 := by decide +kernel

end Go.Proofs.YtnjgagbblkjjeaaGreatDoor.Wrd
