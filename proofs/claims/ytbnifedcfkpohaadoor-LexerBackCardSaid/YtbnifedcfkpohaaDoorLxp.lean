/- Layer 11 in plain words: a source as tokens, told by what is left of it. No program is named here. -/
import Derived.Test.YtbnifedcfkpohaaDoorTck
set_option linter.unusedSimpArgs false
set_option linter.unusedVariables false
namespace Go.Proofs.YtbnifedcfkpohaaDoor
namespace Lx

structure T where
  kind : Int
  text : ByteArray
  n : Int
  pos : Int

/-- Of what kind a byte is: 1 blank, 2 letter, 3 digit, 4 quotation mark, 0 another one. -/
def kd (c : UInt8) : Nat :=
  if c.toNat = 32 ∨ c.toNat = 9 ∨ c.toNat = 10 ∨ c.toNat = 13 then 1
  else if (97 ≤ c.toNat ∧ c.toNat ≤ 122) ∨ (65 ≤ c.toNat ∧ c.toNat ≤ 90) then 2
  else if 48 ≤ c.toNat ∧ c.toNat ≤ 57 then 3
  else if c.toNat = 34 then 4 else 0
def dg (c : UInt8) : Bool := kd c == 3
def an (c : UInt8) : Bool := kd c == 3 || kd c == 2
def nl (c : UInt8) : Bool := !(c.toNat == 10)
def pr (c : UInt8) : Bool := decide (32 ≤ c.toNat) && decide (c.toNat ≤ 126)
def meant (c : UInt8) : Option UInt8 := if c.toNat = 34 then some 34 else if c.toNat = 92 then some 92 else if c.toNat = 110 then some 10 else none
def spelt (c : UInt8) : List UInt8 := if c.toNat = 34 then [92, 34] else if c.toNat = 92 then [92, 92] else if c.toNat = 10 then [92, 110] else [c]

/-- How many at the beginning are such. -/
def run (f : UInt8 → Bool) : List UInt8 → Nat
  | [] => 0
  | c :: r => if f c then run f r + 1 else 0

theorem run_le (f : UInt8 → Bool) : ∀ l, run f l ≤ l.length
  | [] => Nat.le_refl _
  | c :: r => by
    rw [run]; have := run_le f r
    split <;> simp <;> omega

/-- Blanks at the beginning; within a comment, or not. -/
def skip : Bool → List UInt8 → Nat
  | _, [] => 0
  | true, c :: r => skip (nl c) r + 1
  | false, c :: r => if kd c = 1 then skip false r + 1 else if c.toNat = 47 ∧ (r.headD 0).toNat = 47 then skip true r + 1 else 0

theorem skip_le : ∀ (b : Bool) (l : List UInt8), skip b l ≤ l.length
  | b, [] => by cases b <;> exact Nat.le_refl _
  | true, c :: r => by rw [skip]; have := skip_le (nl c) r; simp; omega
  | false, c :: r => by
    rw [skip]; have := skip_le false r; have := skip_le true r
    split
    · simp; omega
    · split <;> simp <;> omega

/-- A comment goes to the end of its line. -/
theorem skip_line : ∀ (l : List UInt8), skip true l = run nl l + skip false (l.drop (run nl l))
  | [] => rfl
  | c :: r => by
    rw [skip, run]
    cases h : nl c with
    | true => simp only [if_pos]; rw [skip_line r]; simp; omega
    | false =>
      simp only [Bool.false_eq_true, if_false, List.drop_zero, Nat.zero_add]
      rw [skip, if_pos]
      unfold nl at h; simp at h
      unfold kd; rw [if_pos (by omega)]

def val (l : List UInt8) : Nat := l.foldl (fun a c => 10 * a + (c.toNat - 48)) 0

/-- What is read of a text behind its first mark: its bytes; how many are gone through; why it stops (0 at its mark, 1 at a byte that may not be, 2 at the end). -/
def txt : Bool → List UInt8 → List UInt8 × Nat × Nat
  | _, [] => ([], 0, 2)
  | true, c :: r => match meant c with
    | some m => (m :: (txt false r).1, (txt false r).2.1 + 1, (txt false r).2.2)
    | none => ([], 0, 1)
  | false, c :: r =>
    if c.toNat = 92 then ((txt true r).1, (txt true r).2.1 + 1, (txt true r).2.2)
    else if c.toNat = 34 then ([], 0, 0)
    else if pr c then (c :: (txt false r).1, (txt false r).2.1 + 1, (txt false r).2.2)
    else ([], 0, 1)

/-- What is cut off: a token, and how long it is; or why none is, and how far on. -/
inductive R where
  | tok (kind : Int) (text : ByteArray) (n : Int) (len : Nat)
  | bad (e : Int) (off : Nat)

def wordR (w : ByteArray) : R :=
  if 20 < w.size then .bad 4 0 else .tok (if Wrd.key w then 3 else if Wrd.name w then 1 else 2) w 0 w.size
def word (s : List UInt8) : R := wordR ⟨(s.take (run an s)).toArray⟩

def wrong (s : List UInt8) (k : Nat) : Bool := decide (9223372036854775807 < val (s.take k)) || (decide ((s.headD 0).toNat = 48) && decide (1 < k))
def numR (s : List UInt8) (k : Nat) (isR : Bool) : R :=
  if isR then
    if wrong s k || decide (9007199254740992 < val (s.take k)) then .bad 3 0 else if 0 < run an (s.drop (k + 1)) then .bad 5 (k + 1) else .tok 5 ⟨#[]⟩ (val (s.take k)) (k + 1)
  else if wrong s k then .bad 3 0 else if 0 < run an (s.drop k) then .bad 5 k else .tok 4 ⟨#[]⟩ (val (s.take k)) k
def number (s : List UInt8) : R := numR s (run dg s) (decide (((s.drop (run dg s)).headD 0).toNat = 114))

def textR (r : List UInt8 × Nat × Nat) : R :=
  if r.2.2 = 1 then .bad 5 (r.2.1 + 1) else if 1000 < r.1.length then .bad 4 0 else if r.2.2 = 2 then .bad 5 0 else .tok 6 ⟨r.1.toArray⟩ 0 (r.2.1 + 2)
def text (s : List UInt8) : R := textR (txt false s.tail)

def sgs : ByteArray := ⟨#[38, 38, 32, 124, 124, 32, 61, 61, 32, 33, 61, 32, 60, 61, 32, 123, 32, 125, 32, 40, 32, 41, 32, 58, 32, 59, 32, 44, 32, 46, 32, 61, 32, 60, 32, 43, 32, 45, 32, 42, 32, 47, 32, 37, 32, 33, 32, 63]⟩
def sw : List ByteArray := [⟨#[38, 38]⟩, ⟨#[124, 124]⟩, ⟨#[61, 61]⟩, ⟨#[33, 61]⟩, ⟨#[60, 61]⟩, ⟨#[123]⟩, ⟨#[125]⟩, ⟨#[40]⟩, ⟨#[41]⟩, ⟨#[58]⟩, ⟨#[59]⟩, ⟨#[44]⟩, ⟨#[46]⟩, ⟨#[61]⟩, ⟨#[60]⟩, ⟨#[43]⟩, ⟨#[45]⟩, ⟨#[42]⟩, ⟨#[47]⟩, ⟨#[37]⟩, ⟨#[33]⟩, ⟨#[63]⟩]
theorem flds_sgs : Wrd.flds sgs = sw := by kernel_rfl
theorem ascii_sgs : ∀ c ∈ sgs.data.toList, c.toNat < 128 := by decide +kernel
theorem size_sgs : sgs.size ≤ 9223372036854775807 := by decide +kernel
theorem len_sw : sw.length = 22 := rfl

def has (s : List UInt8) (x : ByteArray) : Bool := x.data.toList.isPrefixOf s
def sign (s : List UInt8) : R := match sw.find? (has s) with
  | some x => .tok 7 x 0 x.size
  | none => .bad 5 0

def tokK (q : Nat) (s : List UInt8) : R := if q = 2 then word s else if q = 3 then number s else if q = 4 then text s else sign s
def tok (s : List UInt8) : R := tokK (kd (s.headD 0)) s

abbrev Q := T × Int × Int
def zeroT : T := ⟨0, ⟨#[]⟩, 0, 0⟩

/-- What the iterator tells from a place on; s: what is left there. -/
def seqF : Nat → Nat → List UInt8 → List Q
  | 0, _, _ => []
  | n + 1, p, s =>
    if (s.drop (skip false s)).length = 0 then [] else
    match tok (s.drop (skip false s)) with
    | .bad e o => [(zeroT, e, ((p + skip false s + o : Nat) : Int))]
    | .tok k x v len => (⟨k, x, v, ((p + skip false s : Nat) : Int)⟩, 0, 0) :: seqF n (p + skip false s + len) ((s.drop (skip false s)).drop len)
def seq (l : List UInt8) : List Q := seqF (l.length + 1) 0 l

/-- What is made of what the iterator tells. -/
def resOf : List Q → List T × Int × Int
  | [] => ([], 0, 0)
  | (x, e, a) :: q => if e = 0 then (if (resOf q).2.1 = 0 then (x :: (resOf q).1, 0, 0) else resOf q) else ([], e, a)
def lex (l : List UInt8) : List T × Int × Int := if 20000 < l.length then ([], 4, 20000) else resOf (seq l)

/-- A token is at least one byte long, and lies within what is left. -/
theorem txt_len : ∀ (b : Bool) (l : List UInt8), (txt b l).2.1 ≤ l.length ∧ ((txt b l).2.2 = 0 → (txt b l).2.1 < l.length) ∧ (txt b l).1.length ≤ (txt b l).2.1 ∧ ((txt b l).2.2 = 1 → (txt b l).2.1 < l.length) ∧ (txt b l).2.2 ≤ 2
  | b, [] => by cases b <;> simp [txt]
  | true, c :: r => by
    have h := txt_len false r
    rw [txt]
    cases meant c with
    | none => simp
    | some m => simp; omega
  | false, c :: r => by
    have h := txt_len false r
    have h' := txt_len true r
    rw [txt]
    split
    · simp; omega
    · split
      · simp
      · split
        · simp; omega
        · simp

theorem has_take {s : List UInt8} {x : ByteArray} (h : has s x = true) : x.size ≤ s.length ∧ s.take x.size = x.data.toList := by
  unfold has at h
  rw [List.isPrefixOf_iff_prefix] at h
  obtain ⟨t, rfl⟩ := h
  have e : x.size = x.data.toList.length := by rw [Array.length_toList]; rfl
  constructor
  · rw [e]; simp
  · rw [e]; simp

theorem take_size (s : List UInt8) (k : Nat) (h : k ≤ s.length) : (⟨(s.take k).toArray⟩ : ByteArray).size = k := by
  show (s.take k).toArray.size = k
  simp; omega

theorem run_pos {f : UInt8 → Bool} {c : UInt8} {r : List UInt8} (h : f c = true) : 0 < run f (c :: r) := by rw [run, if_pos h]; omega

theorem sw_pos : ∀ x ∈ sw, 0 < x.size := by decide +kernel

theorem word_len {s : List UInt8} {k : Int} {x : ByteArray} {v : Int} {len : Nat} (hp : 0 < run an s) (h : word s = .tok k x v len) : 0 < len ∧ len ≤ s.length := by
  have hl := run_le an s
  unfold word wordR at h
  rw [take_size _ _ hl] at h
  by_cases h1 : 20 < run an s
  · rw [if_pos h1] at h; cases h
  · rw [if_neg h1] at h; injection h; omega

theorem number_len {s : List UInt8} {k : Int} {x : ByteArray} {v : Int} {len : Nat} (hp : 0 < run dg s) (h : number s = .tok k x v len) : 0 < len ∧ len ≤ s.length := by
  have hl := run_le dg s
  unfold number numR at h
  by_cases hr : ((s.drop (run dg s)).headD 0).toNat = 114
  · have hlt : run dg s < s.length := by
      rcases Nat.lt_or_ge (run dg s) s.length with h | h
      · exact h
      · rw [List.drop_of_length_le h] at hr; simp at hr
    rw [if_pos (by simpa using hr)] at h
    by_cases h1 : (wrong s (run dg s) || decide (9007199254740992 < val (s.take (run dg s)))) = true
    · rw [if_pos h1] at h; cases h
    · rw [if_neg h1] at h
      by_cases h2 : 0 < run an (s.drop (run dg s + 1))
      · rw [if_pos h2] at h; cases h
      · rw [if_neg h2] at h; injection h; omega
  · rw [if_neg (by simpa using hr)] at h
    by_cases h1 : wrong s (run dg s) = true
    · rw [if_pos h1] at h; cases h
    · rw [if_neg h1] at h
      by_cases h2 : 0 < run an (s.drop (run dg s))
      · rw [if_pos h2] at h; cases h
      · rw [if_neg h2] at h; injection h; omega

theorem text_len {s : List UInt8} {k : Int} {x : ByteArray} {v : Int} {len : Nat} (hs : s.length ≠ 0) (h : text s = .tok k x v len) : 0 < len ∧ len ≤ s.length := by
  have ht := txt_len false s.tail
  rw [List.length_tail] at ht
  unfold text textR at h
  by_cases h1 : (txt false s.tail).2.2 = 1
  · rw [if_pos h1] at h; cases h
  · rw [if_neg h1] at h
    by_cases h2 : 1000 < (txt false s.tail).1.length
    · rw [if_pos h2] at h; cases h
    · rw [if_neg h2] at h
      by_cases h3 : (txt false s.tail).2.2 = 2
      · rw [if_pos h3] at h; cases h
      · rw [if_neg h3] at h
        injection h
        have := ht.2.1 (by omega)
        omega

theorem sign_len {s : List UInt8} {k : Int} {x : ByteArray} {v : Int} {len : Nat} (h : sign s = .tok k x v len) : 0 < len ∧ len ≤ s.length := by
  unfold sign at h
  cases hy : sw.find? (has s) with
  | none => rw [hy] at h; cases h
  | some y =>
    rw [hy] at h
    injection h with _ _ _ h4
    have h1 := has_take (List.find?_some hy)
    have h2 := sw_pos _ (List.mem_of_find?_eq_some hy)
    omega

theorem tok_len {s : List UInt8} {k : Int} {x : ByteArray} {v : Int} {len : Nat} (hs : s.length ≠ 0) (h : tok s = .tok k x v len) : 0 < len ∧ len ≤ s.length := by
  obtain ⟨c, r, rfl⟩ : ∃ c r, s = c :: r := by cases s with
    | nil => simp at hs
    | cons c r => exact ⟨c, r, rfl⟩
  have h : tokK (kd c) (c :: r) = .tok k x v len := h
  unfold tokK at h
  by_cases h2 : kd c = 2
  · rw [if_pos h2] at h; exact word_len (run_pos (by unfold an; simp [h2])) h
  · rw [if_neg h2] at h
    by_cases h3 : kd c = 3
    · rw [if_pos h3] at h; exact number_len (run_pos (by unfold dg; simp [h3])) h
    · rw [if_neg h3] at h
      by_cases h4 : kd c = 4
      · rw [if_pos h4] at h; exact text_len hs h
      · rw [if_neg h4] at h; exact sign_len h

theorem seqF_len : ∀ (n p : Nat) (s : List UInt8), (seqF n p s).length ≤ n
  | 0, _, _ => Nat.le_refl _
  | n + 1, p, s => by
    rw [seqF]
    by_cases h : (s.drop (skip false s)).length = 0
    · rw [if_pos h]; exact Nat.zero_le _
    · rw [if_neg h]
      cases tok (s.drop (skip false s)) with
      | bad e o => simp
      | tok k x v len => simp; exact seqF_len n _ _

end Lx
end Go.Proofs.YtbnifedcfkpohaaDoor
