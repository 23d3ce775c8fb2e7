/- Texts. -/
import Derived.Test.YtegcgflhgfmkpaaGreatDoorRows
set_option linter.unusedSimpArgs false
set_option linter.unusedVariables false
namespace Go.Proofs.YtegcgflhgfmkpaaGreatDoor.Wrd
def ws : List ByteArray := [⟨#[99, 108, 97, 115, 115]⟩, ⟨#[100, 101, 102]⟩, ⟨#[118, 97, 114]⟩, ⟨#[109, 97, 105, 110]⟩, ⟨#[108, 101, 116]⟩, ⟨#[105, 102]⟩, ⟨#[101, 108, 115, 101]⟩, ⟨#[119, 104, 105, 108, 101]⟩, ⟨#[110, 101, 119]⟩, ⟨#[110, 111, 110, 101]⟩, ⟨#[116, 104, 105, 115]⟩, ⟨#[115, 117, 112, 101, 114]⟩, ⟨#[114, 101, 97, 100]⟩, ⟨#[112, 114, 105, 110, 116]⟩, ⟨#[116, 114, 117, 101]⟩, ⟨#[102, 97, 108, 115, 101]⟩, ⟨#[110, 97, 110]⟩, ⟨#[105, 110, 102]⟩, ⟨#[105, 110, 116]⟩, ⟨#[114, 101, 97, 108]⟩, ⟨#[98, 111, 111, 108]⟩, ⟨#[115, 116, 114]⟩, ⟨#[117, 110, 105, 116]⟩, ⟨#[108, 101, 110]⟩]
def bs : List ByteArray := [⟨#[105, 110, 116]⟩, ⟨#[114, 101, 97, 108]⟩, ⟨#[98, 111, 111, 108]⟩, ⟨#[115, 116, 114]⟩, ⟨#[117, 110, 105, 116]⟩]
def rs : ByteArray := ⟨#[99, 108, 97, 115, 115, 32, 100, 101, 102, 32, 118, 97, 114, 32, 109, 97, 105, 110, 32, 108, 101, 116, 32, 105, 102, 32, 101, 108, 115, 101, 32, 119, 104, 105, 108, 101, 32, 110, 101, 119, 32, 110, 111, 110, 101, 32, 116, 104, 105, 115, 32, 115, 117, 112, 101, 114, 32, 114, 101, 97, 100, 32, 112, 114, 105, 110, 116, 32, 116, 114, 117, 101, 32, 102, 97, 108, 115, 101, 32, 110, 97, 110, 32, 105, 110, 102, 32, 105, 110, 116, 32, 114, 101, 97, 108, 32, 98, 111, 111, 108, 32, 115, 116, 114, 32, 117, 110, 105, 116, 32, 108, 101, 110]⟩
def spB (c : UInt8) : Bool := c == 32 || (9 <= c && c <= 13)
def smB (n : Nat) : Bool := decide (97 <= n) && decide (n <= 122)
def caB (n : Nat) : Bool := decide (65 <= n) && decide (n <= 90)
def diB (n : Nat) : Bool := decide (48 <= n) && decide (n <= 57)
def kd (c : UInt8) : Nat := if smB c.toNat then 0 else if caB c.toNat then 1 else if diB c.toNat then 2 else 3
def spelt (s : ByteArray) (k : Nat) : Bool := decide (1 <= s.size) && decide (s.size <= 20) && s.data.toList.all (fun c => kd c != 3) && (kd (s.data.toList.headD 0) == k)
def has (l : List ByteArray) (s : ByteArray) : Bool := l.any fun x => decide (x = s)
def key (s : ByteArray) : Bool := has ws s
def base (s : ByteArray) : Bool := has bs s
def tagF : List ByteArray -> Nat -> ByteArray -> Nat
 | [], _, _ => 0
 | b :: r, k, s => if b = s then k else tagF r (k + 1) s
def tag (s : ByteArray) : Nat := tagF bs 1 s
def tagE (s : ByteArray) : Int := if base s then 0 else 7
def name (s : ByteArray) : Bool := spelt s 0 && !key s
def cls (s : ByteArray) : Bool := spelt s 1
def kind (s : ByteArray) : Int := if base s then 1 else if s = ⟨#[63]⟩ then 2 else if cls s then 3 else 0
def typ (s : ByteArray) : Bool := decide (kind s ≠ 0)
theorem mem_at {s : ByteArray} {c : UInt8} (h : c ∈ s.data.toList) : ∃ k, ∃ hk : k < s.size, s[k] = c := by
 obtain ⟨k, hk, e⟩ := List.getElem_of_mem h;exact ⟨k, by simpa using hk, e⟩
theorem at_mem {s : ByteArray} {k : Nat} (hk : k < s.size) : s[k] ∈ s.data.toList := by
 have : s[k] = s.data.toList[k]'(by simpa using hk) := rfl;rw [this]; exact List.getElem_mem _
theorem headD_at : ∀ (l : List UInt8) (h : 0 < l.length), l.headD 0 = l[0]
 | a :: r, _ => rfl
theorem head_at {s : ByteArray} (hk : 0 < s.size) : s.data.toList.headD 0 = s[0] :=
 headD_at s.data.toList (by simpa using hk)
theorem spelt_len {s : ByteArray} {f : Nat} (h : s.size < 1 ∨ 20 < s.size) : spelt s f = false := by
 unfold spelt;rcases h with h | h
 ·have : decide (1 <= s.size) = false := decide_eq_false (by omega);rw [this]; rfl
 ·have : decide (s.size <= 20) = false := decide_eq_false (by omega);rw [this]; simp
theorem spelt_at {s : ByteArray} {f k : Nat} (hk : k < s.size) (h : kd s[k] = 3) : spelt s f = false := by
 have : s.data.toList.all (fun c => kd c != 3) = false := by
  rw [List.all_eq_false];exact ⟨s[k], at_mem hk, by rw [h]; decide⟩
 unfold spelt;rw [this]; simp
theorem spelt_first {s : ByteArray} {f : Nat} (hk : 0 < s.size) (h : kd s[0] ≠ f) : spelt s f = false := by
 unfold spelt;rw [head_at hk];have : (kd s[0] == f) = false := by simpa using h
 rw [this]; simp
theorem spelt_all {s : ByteArray} {f : Nat} (h1 : 0 < s.size) (h2 : s.size <= 20) (ha : ∀ k (hk : k < s.size), kd s[k] ≠ 3) (h0 : kd s[0] = f) : spelt s f = true := by
 unfold spelt;rw [head_at h1, h0];have e1 : decide (1 <= s.size) = true := decide_eq_true h1;have e2 : decide (s.size <= 20) = true := decide_eq_true h2;have e3 : s.data.toList.all (fun c => kd c != 3) = true := by
  rw [List.all_eq_true];intro c hc;obtain ⟨k, hk, rfl⟩ := mem_at hc
  simpa using ha k hk
 rw [e1, e2, e3]; simp
def st (s : ByteArray) : Nat -> Option Nat × List ByteArray
 | 0 => (none, [])
 | k + 1 => match st s k with
  | (none, pre) => if spB (s.data.toList.getD k 0) then (none, pre) else (some k, pre)
  | (some b, pre) => if spB (s.data.toList.getD k 0) then (none, pre ++ [s.extract b k]) else (some b, pre)
def flds (s : ByteArray) : List ByteArray := match st s s.size with
 | (none, pre) => pre
 | (some b, pre) => pre ++ [s.extract b s.size]
theorem st_lt (s : ByteArray) : ∀ (k b : Nat) (pre : List ByteArray), st s k = (some b, pre) -> b < k
 | 0, _, _, h => by cases h
 | k + 1, b, pre, h => by
  unfold st at h
  split at h
  ·split at h
   ·cases h
   ·cases h; omega
  ·rename_i b' pre' h'
   have := st_lt s k b' pre' h'
   split at h
   ·cases h
   ·cases h; omega
theorem st_next (s : ByteArray) (k : Nat) : (st s k).2 <+: (st s (k + 1)).2 := by
 conv => rhs; unfold st
 split
 ·rename_i h; rw [h]; split <;> exact List.prefix_refl _
 ·rename_i h; rw [h]; split
  ·exact List.prefix_append _ _
  ·exact List.prefix_refl _
theorem st_mono (s : ByteArray) (k : Nat) : ∀ d, (st s k).2 <+: (st s (k + d)).2
 | 0 => List.prefix_refl _
 | d + 1 => (st_mono s k d).trans (st_next s (k + d))
theorem st_flds (s : ByteArray) {k : Nat} (h : k <= s.size) : (st s k).2 <+: flds s := by
 have h1 := st_mono s k (s.size - k);rw [show k + (s.size - k) = s.size by omega] at h1;refine h1.trans ?_;unfold flds
 split
 ·rename_i h; rw [h]; exact List.prefix_refl _
 ·rename_i h; rw [h]; exact List.prefix_append _ _
theorem has_iff {l : List ByteArray} {s : ByteArray} : has l s = true ↔ s ∈ l := by
 unfold has; rw [List.any_eq_true]
 constructor
 ·rintro ⟨x, hx, h⟩; rw [<- of_decide_eq_true h]; exact hx
 ·intro h; exact ⟨s, h, decide_eq_true rfl⟩
theorem has_no {l : List ByteArray} {s : ByteArray} (h : s ∉ l) : has l s = false := by
 cases e : has l s with
 | false => rfl
 | true => exact absurd (has_iff.1 e) h
theorem flds_rs : flds rs = ws := by kernel_rfl
theorem ascii_rs : ∀ c ∈ rs.data.toList, c.toNat < 128 := by decide +kernel
theorem size_rs : rs.size <= 9223372036854775807 := by decide +kernel
end Go.Proofs.YtegcgflhgfmkpaaGreatDoor.Wrd
namespace Go.Proofs.YtegcgflhgfmkpaaGreatDoor.Tab
structure V where
 name : ByteArray
 typ : ByteArray
structure M where
 name : ByteArray
 params : List V
 res : ByteArray
structure C where
 name : ByteArray
 super : ByteArray
 fields : List V
 methods : List M
instance : Inhabited C := ⟨⟨ByteArray.empty, ByteArray.empty, [], []⟩⟩
end Go.Proofs.YtegcgflhgfmkpaaGreatDoor.Tab
namespace Go.Proofs.YtegcgflhgfmkpaaGreatDoor
namespace Lx
structure T where
 kind : Int
 text : ByteArray
 n : Int
 pos : Int
def kd (c : UInt8) : Nat :=
 if c.toNat = 32 ∨ c.toNat = 9 ∨ c.toNat = 10 ∨ c.toNat = 13 then 1
 else if (97 <= c.toNat /\ c.toNat <= 122) ∨ (65 <= c.toNat /\ c.toNat <= 90) then 2
 else if 48 <= c.toNat /\ c.toNat <= 57 then 3
 else if c.toNat = 34 then 4 else 0
def dg (c : UInt8) : Bool := kd c == 3
def an (c : UInt8) : Bool := kd c == 3 || kd c == 2
def nl (c : UInt8) : Bool := !(c.toNat == 10)
def pr (c : UInt8) : Bool := decide (32 <= c.toNat) && decide (c.toNat <= 126)
def meant (c : UInt8) : Option UInt8 := if c.toNat = 34 then some 34 else if c.toNat = 92 then some 92 else if c.toNat = 110 then some 10 else none
def spelt (c : UInt8) : List UInt8 := if c.toNat = 34 then [92, 34] else if c.toNat = 92 then [92, 92] else if c.toNat = 10 then [92, 110] else [c]
def run (f : UInt8 -> Bool) : List UInt8 -> Nat
 | [] => 0
 | c :: r => if f c then run f r + 1 else 0
theorem run_le (f : UInt8 -> Bool) : ∀ l, run f l <= l.length
 | [] => Nat.le_refl _
 | c :: r => by
  rw [run]; have := run_le f r
  split <;> simp <;> omega
def skip : Bool -> List UInt8 -> Nat
 | _, [] => 0
 | true, c :: r => skip (nl c) r + 1
 | false, c :: r => if kd c = 1 then skip false r + 1 else if c.toNat = 47 /\ (r.headD 0).toNat = 47 then skip true r + 1 else 0
theorem skip_le : ∀ (b : Bool) (l : List UInt8), skip b l <= l.length
 | b, [] => by cases b <;> exact Nat.le_refl _
 | true, c :: r => by rw [skip]; have := skip_le (nl c) r; simp; omega
 | false, c :: r => by
  rw [skip]; have := skip_le false r; have := skip_le true r
  split
  ·simp; omega
  ·split <;> simp <;> omega
theorem skip_line : ∀ (l : List UInt8), skip true l = run nl l + skip false (l.drop (run nl l))
 | [] => rfl
 | c :: r => by
  rw [skip, run]
  cases h : nl c with
  | true => simp only [if_pos]; rw [skip_line r]; simp; omega
  | false =>
   simp only [Bool.false_eq_true, if_false, List.drop_zero, Nat.zero_add];rw [skip, if_pos];unfold nl at h; simp at h;unfold kd; rw [if_pos (by omega)]
def val (l : List UInt8) : Nat := l.foldl (fun a c => 10 * a + (c.toNat - 48)) 0
def txt : Bool -> List UInt8 -> List UInt8 × Nat × Nat
 | _, [] => ([], 0, 2)
 | true, c :: r => match meant c with
  | some m => (m :: (txt false r).1, (txt false r).2.1 + 1, (txt false r).2.2)
  | none => ([], 0, 1)
 | false, c :: r =>
  if c.toNat = 92 then ((txt true r).1, (txt true r).2.1 + 1, (txt true r).2.2)
  else if c.toNat = 34 then ([], 0, 0)
  else if pr c then (c :: (txt false r).1, (txt false r).2.1 + 1, (txt false r).2.2)
  else ([], 0, 1)
inductive R where
 | tok (kind : Int) (text : ByteArray) (n : Int) (len : Nat)
 | bad (e : Int) (off : Nat)
def wordR (w : ByteArray) : R :=
 if 20 < w.size then .bad 4 0 else .tok (if Wrd.key w then 3 else if Wrd.name w then 1 else 2) w 0 w.size
def word (s : List UInt8) : R := wordR ⟨(s.take (run an s)).toArray⟩
def wrong (s : List UInt8) (k : Nat) : Bool := decide (9223372036854775807 < val (s.take k)) || (decide ((s.headD 0).toNat = 48) && decide (1 < k))
def numR (s : List UInt8) (k : Nat) (isR : Bool) : R :=
 if isR then
  if wrong s k || decide (9007199254740992 < val (s.take k)) then .bad 3 0 else if 0 < run an (s.drop (k + 1)) then .bad 5 (k + 1) else .tok 5 ⟨#[]⟩ (val (s.take k)) (k + 1)
 else if wrong s k then .bad 3 0 else if 0 < run an (s.drop k) then .bad 5 k else .tok 4 ⟨#[]⟩ (val (s.take k)) k
def number (s : List UInt8) : R := numR s (run dg s) (decide (((s.drop (run dg s)).headD 0).toNat = 114))
def textR (r : List UInt8 × Nat × Nat) : R :=
 if r.2.2 = 1 then .bad 5 (r.2.1 + 1) else if 1000 < r.1.length then .bad 4 0 else if r.2.2 = 2 then .bad 5 0 else .tok 6 ⟨r.1.toArray⟩ 0 (r.2.1 + 2)
def text (s : List UInt8) : R := textR (txt false s.tail)
def sgs : ByteArray := ⟨#[38, 38, 32, 124, 124, 32, 61, 61, 32, 33, 61, 32, 60, 61, 32, 123, 32, 125, 32, 40, 32, 41, 32, 58, 32, 59, 32, 44, 32, 46, 32, 61, 32, 60, 32, 43, 32, 45, 32, 42, 32, 47, 32, 37, 32, 33, 32, 63]⟩
def sw : List ByteArray := [⟨#[38, 38]⟩, ⟨#[124, 124]⟩, ⟨#[61, 61]⟩, ⟨#[33, 61]⟩, ⟨#[60, 61]⟩, ⟨#[123]⟩, ⟨#[125]⟩, ⟨#[40]⟩, ⟨#[41]⟩, ⟨#[58]⟩, ⟨#[59]⟩, ⟨#[44]⟩, ⟨#[46]⟩, ⟨#[61]⟩, ⟨#[60]⟩, ⟨#[43]⟩, ⟨#[45]⟩, ⟨#[42]⟩, ⟨#[47]⟩, ⟨#[37]⟩, ⟨#[33]⟩, ⟨#[63]⟩]
theorem flds_sgs : Wrd.flds sgs = sw := by kernel_rfl
theorem ascii_sgs : ∀ c ∈ sgs.data.toList, c.toNat < 128 := by decide +kernel
theorem size_sgs : sgs.size <= 9223372036854775807 := by decide +kernel
def has (s : List UInt8) (x : ByteArray) : Bool := x.data.toList.isPrefixOf s
def sign (s : List UInt8) : R := match sw.find? (has s) with
 | some x => .tok 7 x 0 x.size
 | none => .bad 5 0
def tokK (q : Nat) (s : List UInt8) : R := if q = 2 then word s else if q = 3 then number s else if q = 4 then text s else sign s
def tok (s : List UInt8) : R := tokK (kd (s.headD 0)) s
abbrev Q := T × Int × Int
def zeroT : T := ⟨0, ⟨#[]⟩, 0, 0⟩
def seqF : Nat -> Nat -> List UInt8 -> List Q
 | 0, _, _ => []
 | n + 1, p, s =>
  if (s.drop (skip false s)).length = 0 then [] else
  match tok (s.drop (skip false s)) with
  | .bad e o => [(zeroT, e, ((p + skip false s + o : Nat) : Int))]
  | .tok k x v len => (⟨k, x, v, ((p + skip false s : Nat) : Int)⟩, 0, 0) :: seqF n (p + skip false s + len) ((s.drop (skip false s)).drop len)
def seq (l : List UInt8) : List Q := seqF (l.length + 1) 0 l
def resOf : List Q -> List T × Int × Int
 | [] => ([], 0, 0)
 | (x, e, a) :: q => if e = 0 then (if (resOf q).2.1 = 0 then (x :: (resOf q).1, 0, 0) else resOf q) else ([], e, a)
def lex (l : List UInt8) : List T × Int × Int := if 20000 < l.length then ([], 4, 20000) else resOf (seq l)
theorem txt_len : ∀ (b : Bool) (l : List UInt8), (txt b l).2.1 <= l.length /\ ((txt b l).2.2 = 0 -> (txt b l).2.1 < l.length) /\ (txt b l).1.length <= (txt b l).2.1 /\ ((txt b l).2.2 = 1 -> (txt b l).2.1 < l.length) /\ (txt b l).2.2 <= 2
 | b, [] => by cases b <;> simp [txt]
 | true, c :: r => by
  have h := txt_len false r;rw [txt]
  cases meant c with
  | none => simp
  | some m => simp; omega
 | false, c :: r => by
  have h := txt_len false r;have h' := txt_len true r;rw [txt]
  split
  ·simp; omega
  ·split
   ·simp
   ·split
    ·simp; omega
    ·simp
theorem has_take {s : List UInt8} {x : ByteArray} (h : has s x = true) : x.size <= s.length /\ s.take x.size = x.data.toList := by
 unfold has at h;rw [List.isPrefixOf_iff_prefix] at h;obtain ⟨t, rfl⟩ := h;have e : x.size = x.data.toList.length := by rw [Array.length_toList]; rfl
 constructor
 ·rw [e]; simp
 ·rw [e]; simp
theorem take_size (s : List UInt8) (k : Nat) (h : k <= s.length) : (⟨(s.take k).toArray⟩ : ByteArray).size = k := by
 show (s.take k).toArray.size = k
 simp; omega
theorem run_pos {f : UInt8 -> Bool} {c : UInt8} {r : List UInt8} (h : f c = true) : 0 < run f (c :: r) := by rw [run, if_pos h]; omega
theorem sw_pos : ∀ x ∈ sw, 0 < x.size := by decide +kernel
theorem word_len {s : List UInt8} {k : Int} {x : ByteArray} {v : Int} {len : Nat} (hp : 0 < run an s) (h : word s = .tok k x v len) : 0 < len /\ len <= s.length := by
 have hl := run_le an s;unfold word wordR at h;rw [take_size _ _ hl] at h;by_cases h1 : 20 < run an s
 ·rw [if_pos h1] at h; cases h
 ·rw [if_neg h1] at h; injection h; omega
theorem number_len {s : List UInt8} {k : Int} {x : ByteArray} {v : Int} {len : Nat} (hp : 0 < run dg s) (h : number s = .tok k x v len) : 0 < len /\ len <= s.length := by
 have hl := run_le dg s;unfold number numR at h;by_cases hr : ((s.drop (run dg s)).headD 0).toNat = 114
 ·have hlt : run dg s < s.length := by
   rcases Nat.lt_or_ge (run dg s) s.length with h | h
   ·exact h
   ·rw [List.drop_of_length_le h] at hr; simp at hr
  rw [if_pos (by simpa using hr)] at h;by_cases h1 : (wrong s (run dg s) || decide (9007199254740992 < val (s.take (run dg s)))) = true
  ·rw [if_pos h1] at h; cases h
  ·rw [if_neg h1] at h;by_cases h2 : 0 < run an (s.drop (run dg s + 1))
   ·rw [if_pos h2] at h; cases h
   ·rw [if_neg h2] at h; injection h; omega
 ·rw [if_neg (by simpa using hr)] at h;by_cases h1 : wrong s (run dg s) = true
  ·rw [if_pos h1] at h; cases h
  ·rw [if_neg h1] at h;by_cases h2 : 0 < run an (s.drop (run dg s))
   ·rw [if_pos h2] at h; cases h
   ·rw [if_neg h2] at h; injection h; omega
theorem text_len {s : List UInt8} {k : Int} {x : ByteArray} {v : Int} {len : Nat} (hs : s.length ≠ 0) (h : text s = .tok k x v len) : 0 < len /\ len <= s.length := by
 have ht := txt_len false s.tail;rw [List.length_tail] at ht;unfold text textR at h;by_cases h1 : (txt false s.tail).2.2 = 1
 ·rw [if_pos h1] at h; cases h
 ·rw [if_neg h1] at h;by_cases h2 : 1000 < (txt false s.tail).1.length
  ·rw [if_pos h2] at h; cases h
  ·rw [if_neg h2] at h;by_cases h3 : (txt false s.tail).2.2 = 2
   ·rw [if_pos h3] at h; cases h
   ·rw [if_neg h3] at h;injection h;have := ht.2.1 (by omega);omega
theorem sign_len {s : List UInt8} {k : Int} {x : ByteArray} {v : Int} {len : Nat} (h : sign s = .tok k x v len) : 0 < len /\ len <= s.length := by
 unfold sign at h
 cases hy : sw.find? (has s) with
 | none => rw [hy] at h; cases h
 | some y =>
  rw [hy] at h;injection h with _ _ _ h4;have h1 := has_take (List.find?_some hy);have h2 := sw_pos _ (List.mem_of_find?_eq_some hy);omega
theorem tok_len {s : List UInt8} {k : Int} {x : ByteArray} {v : Int} {len : Nat} (hs : s.length ≠ 0) (h : tok s = .tok k x v len) : 0 < len /\ len <= s.length := by
 obtain ⟨c, r, rfl⟩ : ∃ c r, s = c :: r := by cases s with
  | nil => simp at hs
  | cons c r => exact ⟨c, r, rfl⟩
 have h : tokK (kd c) (c :: r) = .tok k x v len := h;unfold tokK at h;by_cases h2 : kd c = 2
 ·rw [if_pos h2] at h; exact word_len (run_pos (by unfold an; simp [h2])) h
 ·rw [if_neg h2] at h;by_cases h3 : kd c = 3
  ·rw [if_pos h3] at h; exact number_len (run_pos (by unfold dg; simp [h3])) h
  ·rw [if_neg h3] at h;by_cases h4 : kd c = 4
   ·rw [if_pos h4] at h; exact text_len hs h
   ·rw [if_neg h4] at h; exact sign_len h
theorem seqF_len : ∀ (n p : Nat) (s : List UInt8), (seqF n p s).length <= n
 | 0, _, _ => Nat.le_refl _
 | n + 1, p, s => by
  rw [seqF];by_cases h : (s.drop (skip false s)).length = 0
  ·rw [if_pos h]; exact Nat.zero_le _
  ·rw [if_neg h]
   cases tok (s.drop (skip false s)) with
   | bad e o => simp
   | tok k x v len => simp; exact seqF_len n _ _
end Lx
end Go.Proofs.YtegcgflhgfmkpaaGreatDoor
