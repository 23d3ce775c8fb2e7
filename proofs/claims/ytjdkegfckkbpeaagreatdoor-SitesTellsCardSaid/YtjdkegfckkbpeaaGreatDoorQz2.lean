/- Words, in plain words: which bytes are letters and of which kind, which texts are reserved, which are base types with which tags, which are names, class names and types; and the fields of a text, one byte after another. Tables of classes, in plain words: what lies where, a class's line, its fields, methods and members, and which fault a table has. Which fault a table has, in plain words: class by class, field by field, method by method. -/
import Derived.Test.YtjdkegfckkbpeaaGreatDoorRows
import Derived.WalkKit
import Derived.ProofKit
import Derived.WalkLawsBesides
import Derived.WalkSpells
import Derived.Outline
import Derived.Lib.Hide
import Derived.Below
import Derived.ChangeSame
import Derived.OwnWalk
import Derived.Deep.Draws
import Derived.RangeFuncNested
import Derived.RangeFuncBound
import Derived.RangeFuncCalls
import Derived.RangeFuncLeaves
import Derived.RangeFuncBox
import Derived.Shelf.Abstract
import Derived.Shelf.RegionOpen
import Derived.OwnWalkIn
import Derived.TacticsInMore
import Derived.LoopNIn
import Derived.LoopIn
import Derived.Maps.AppendAt
import Derived.Deep.QuietTactic
import Derived.BigQuiet
import Derived.Sort.Walk0
set_option linter.unusedSimpArgs false
set_option linter.unusedVariables false
set_option maxRecDepth 100000
namespace Go.Proofs.YtjdkegfckkbpeaaGreatDoor.Wrd
/-- The reserved words, in their order; the base types, in the order of their tags. -/
def ws : List ByteArray := [⟨#[99, 108, 97, 115, 115]⟩, ⟨#[100, 101, 102]⟩, ⟨#[118, 97, 114]⟩, ⟨#[109, 97, 105, 110]⟩, ⟨#[108, 101, 116]⟩, ⟨#[105, 102]⟩, ⟨#[101, 108, 115, 101]⟩, ⟨#[119, 104, 105, 108, 101]⟩, ⟨#[110, 101, 119]⟩, ⟨#[110, 111, 110, 101]⟩, ⟨#[116, 104, 105, 115]⟩, ⟨#[115, 117, 112, 101, 114]⟩, ⟨#[114, 101, 97, 100]⟩, ⟨#[112, 114, 105, 110, 116]⟩, ⟨#[116, 114, 117, 101]⟩, ⟨#[102, 97, 108, 115, 101]⟩, ⟨#[110, 97, 110]⟩, ⟨#[105, 110, 102]⟩, ⟨#[105, 110, 116]⟩, ⟨#[114, 101, 97, 108]⟩, ⟨#[98, 111, 111, 108]⟩, ⟨#[115, 116, 114]⟩, ⟨#[117, 110, 105, 116]⟩, ⟨#[108, 101, 110]⟩]
def bs : List ByteArray := [⟨#[105, 110, 116]⟩, ⟨#[114, 101, 97, 108]⟩, ⟨#[98, 111, 111, 108]⟩, ⟨#[115, 116, 114]⟩, ⟨#[117, 110, 105, 116]⟩]
/-- The reserved words as one text, blanks between. -/
def rs : ByteArray := ⟨#[99, 108, 97, 115, 115, 32, 100, 101, 102, 32, 118, 97, 114, 32, 109, 97, 105, 110, 32, 108, 101, 116, 32, 105, 102, 32, 101, 108, 115, 101, 32, 119, 104, 105, 108, 101, 32, 110, 101, 119, 32, 110, 111, 110, 101, 32, 116, 104, 105, 115, 32, 115, 117, 112, 101, 114, 32, 114, 101, 97, 100, 32, 112, 114, 105, 110, 116, 32, 116, 114, 117, 101, 32, 102, 97, 108, 115, 101, 32, 110, 97, 110, 32, 105, 110, 102, 32, 105, 110, 116, 32, 114, 101, 97, 108, 32, 98, 111, 111, 108, 32, 115, 116, 114, 32, 117, 110, 105, 116, 32, 108, 101, 110]⟩
/-- Blanks among ASCII. -/
def spB (c : UInt8) : Bool := c == 32 || (9 ≤ c && c ≤ 13)
/-- The kind of a letter: 0 small, 1 capital, 2 a digit, 3 none. -/
def smB (n : Nat) : Bool := decide (97 ≤ n) && decide (n ≤ 122)
def caB (n : Nat) : Bool := decide (65 ≤ n) && decide (n ≤ 90)
def diB (n : Nat) : Bool := decide (48 ≤ n) && decide (n ≤ 57)
def kd (c : UInt8) : Nat := if smB c.toNat then 0 else if caB c.toNat then 1 else if diB c.toNat then 2 else 3
/-- Has a text the length and the letters of a name, the first of them of kind k? -/
def spelt (s : ByteArray) (k : Nat) : Bool := decide (1 ≤ s.size) && decide (s.size ≤ 20) && s.data.toList.all (fun c => kd c != 3) && (kd (s.data.toList.headD 0) == k)
def has (l : List ByteArray) (s : ByteArray) : Bool := l.any fun x => decide (x = s)
def key (s : ByteArray) : Bool := has ws s
def base (s : ByteArray) : Bool := has bs s
def tagF : List ByteArray → Nat → ByteArray → Nat
 | [], _, _ => 0
 | b :: r, k, s => if b = s then k else tagF r (k + 1) s
def tag (s : ByteArray) : Nat := tagF bs 1 s
def tagE (s : ByteArray) : Int := if base s then 0 else 7
def name (s : ByteArray) : Bool := spelt s 0 && !key s
def cls (s : ByteArray) : Bool := spelt s 1
def kind (s : ByteArray) : Int := if base s then 1 else if s = ⟨#[63]⟩ then 2 else if cls s then 3 else 0
def typ (s : ByteArray) : Bool := decide (kind s ≠ 0)
theorem mem_at {s : ByteArray} {c : UInt8} (h : c ∈ s.data.toList) : ∃ k, ∃ hk : k < s.size, s[k] = c := by
 obtain ⟨k, hk, e⟩ := List.getElem_of_mem h
 exact ⟨k, by simpa using hk, e⟩
theorem at_mem {s : ByteArray} {k : Nat} (hk : k < s.size) : s[k] ∈ s.data.toList := by
 have : s[k] = s.data.toList[k]'(by simpa using hk) := rfl
 rw [this]; exact List.getElem_mem _
theorem headD_at : ∀ (l : List UInt8) (h : 0 < l.length), l.headD 0 = l[0]
 | a :: r, _ => rfl
theorem head_at {s : ByteArray} (hk : 0 < s.size) : s.data.toList.headD 0 = s[0] :=
 headD_at s.data.toList (by simpa using hk)
theorem spelt_len {s : ByteArray} {f : Nat} (h : s.size < 1 ∨ 20 < s.size) : spelt s f = false := by
 unfold spelt
 rcases h with h | h
 ·have : decide (1 ≤ s.size) = false := decide_eq_false (by omega)
  rw [this]; rfl
 ·have : decide (s.size ≤ 20) = false := decide_eq_false (by omega)
  rw [this]; simp
theorem spelt_at {s : ByteArray} {f k : Nat} (hk : k < s.size) (h : kd s[k] = 3) : spelt s f = false := by
 have : s.data.toList.all (fun c => kd c != 3) = false := by
  rw [List.all_eq_false]
  exact ⟨s[k], at_mem hk, by rw [h]; decide⟩
 unfold spelt
 rw [this]; simp
theorem spelt_first {s : ByteArray} {f : Nat} (hk : 0 < s.size) (h : kd s[0] ≠ f) : spelt s f = false := by
 unfold spelt
 rw [head_at hk]
 have : (kd s[0] == f) = false := by simpa using h
 rw [this]; simp
theorem spelt_all {s : ByteArray} {f : Nat} (h1 : 0 < s.size) (h2 : s.size ≤ 20) (ha : ∀ k (hk : k < s.size), kd s[k] ≠ 3) (h0 : kd s[0] = f) : spelt s f = true := by
 unfold spelt
 rw [head_at h1, h0]
 have e1 : decide (1 ≤ s.size) = true := decide_eq_true h1
 have e2 : decide (s.size ≤ 20) = true := decide_eq_true h2
 have e3 : s.data.toList.all (fun c => kd c != 3) = true := by
  rw [List.all_eq_true]
  intro c hc
  obtain ⟨k, hk, rfl⟩ := mem_at hc
  simpa using ha k hk
 rw [e1, e2, e3]; simp
/-! ### Fields -/
/-- Behind the first k bytes: where a field began, and the fields so far. -/
def st (s : ByteArray) : Nat → Option Nat × List ByteArray
 | 0 => (none, [])
 | k + 1 => match st s k with
  | (none, pre) => if spB (s.data.toList.getD k 0) then (none, pre) else (some k, pre)
  | (some b, pre) => if spB (s.data.toList.getD k 0) then (none, pre ++ [s.extract b k]) else (some b, pre)
def flds (s : ByteArray) : List ByteArray := match st s s.size with
 | (none, pre) => pre
 | (some b, pre) => pre ++ [s.extract b s.size]
theorem st_lt (s : ByteArray) : ∀ (k b : Nat) (pre : List ByteArray), st s k = (some b, pre) → b < k
 | 0, _, _, h => by cases h
 | k + 1, b, pre, h => by
  unfold st at h
  split at h
  ·split at h
   ·cases h
   ·cases h; omega
  ·rename_i b' pre' h'
   have := st_lt s k b' pre' h'
   split at h
   ·cases h
   ·cases h; omega
theorem st_next (s : ByteArray) (k : Nat) : (st s k).2 <+: (st s (k + 1)).2 := by
 conv => rhs; unfold st
 split
 ·rename_i h; rw [h]; split <;> exact List.prefix_refl _
 ·rename_i h; rw [h]; split
  ·exact List.prefix_append _ _
  ·exact List.prefix_refl _
theorem st_mono (s : ByteArray) (k : Nat) : ∀ d, (st s k).2 <+: (st s (k + d)).2
 | 0 => List.prefix_refl _
 | d + 1 => (st_mono s k d).trans (st_next s (k + d))
theorem st_flds (s : ByteArray) {k : Nat} (h : k ≤ s.size) : (st s k).2 <+: flds s := by
 have h1 := st_mono s k (s.size - k)
 rw [show k + (s.size - k) = s.size by omega] at h1
 refine h1.trans ?_
 unfold flds
 split
 ·rename_i h; rw [h]; exact List.prefix_refl _
 ·rename_i h; rw [h]; exact List.prefix_append _ _
theorem has_iff {l : List ByteArray} {s : ByteArray} : has l s = true ↔ s ∈ l := by
 unfold has; rw [List.any_eq_true]
 constructor
 ·rintro ⟨x, hx, h⟩; rw [← of_decide_eq_true h]; exact hx
 ·intro h; exact ⟨s, h, decide_eq_true rfl⟩
theorem has_no {l : List ByteArray} {s : ByteArray} (h : s ∉ l) : has l s = false := by
 cases e : has l s with
 | false => rfl
 | true => exact absurd (has_iff.1 e) h
theorem flds_rs : flds rs = ws := by kernel_rfl
theorem ascii_rs : ∀ c ∈ rs.data.toList, c.toNat < 128 := by decide +kernel
theorem size_rs : rs.size ≤ 9223372036854775807 := by decide +kernel
end Go.Proofs.YtjdkegfckkbpeaaGreatDoor.Wrd
namespace Go.Proofs.YtjdkegfckkbpeaaGreatDoor.Tab
structure V where
 name : ByteArray
 typ : ByteArray
structure M where
 name : ByteArray
 params : List V
 res : ByteArray
structure C where
 name : ByteArray
 super : ByteArray
 fields : List V
 methods : List M
instance : Inhabited C := ⟨⟨ByteArray.empty, ByteArray.empty, [], []⟩⟩
/-- The place of the first thing with that name. -/
def ix {α : Type} (nm : α → ByteArray) (l : List α) (s : ByteArray) : Option Nat := l.findIdx? fun x => decide (nm x = s)
def num : Option Nat → Int
 | some k => k
 | none => 0
theorem ix_some {α : Type} {nm : α → ByteArray} {l : List α} {s : ByteArray} {k : Nat} {x : α} (hk : l[k]? = some x) (hx : nm x = s) (h : ∀ y ∈ l.take k, ¬ nm y = s) : ix nm l s = some k := by
 obtain ⟨hlt, rfl⟩ := List.getElem?_eq_some_iff.1 hk
 unfold ix
 rw [List.findIdx?_eq_some_iff_getElem]
 refine ⟨hlt, by simpa using hx, fun j hj => ?_⟩
 have := h l[j] (List.mem_take_iff_getElem.2 ⟨j, by omega, rfl⟩)
 simpa using this
theorem ix_none {α : Type} {nm : α → ByteArray} {l : List α} {s : ByteArray} (h : ∀ y ∈ l, ¬ nm y = s) : ix nm l s = none := by
 unfold ix
 rw [List.findIdx?_eq_none_iff]
 intro x hx
 simpa using h x hx
theorem ix_lt {α : Type} {nm : α → ByteArray} {l : List α} {s : ByteArray} {k : Nat} (h : ix nm l s = some k) : ∃ hk : k < l.length, nm l[k] = s := by
 unfold ix at h
 rw [List.findIdx?_eq_some_iff_getElem] at h
 obtain ⟨hk, h1, _⟩ := h
 exact ⟨hk, by simpa using h1⟩
theorem ix_isNone {α : Type} {nm : α → ByteArray} {l : List α} {s : ByteArray} : ix nm l s = none ↔ ∀ y ∈ l, ¬ nm y = s := by
 unfold ix
 rw [List.findIdx?_eq_none_iff]
 simp
/-- The place of a class. -/
def at' (t : List C) (s : ByteArray) : Option Nat := ix C.name t s
def nth (t : List C) (i : Nat) : C := t.getD i default
theorem nth_of {t : List C} {i : Nat} {c : C} (h : t[i]? = some c) : nth t i = c := by
 unfold nth
 rw [List.getD_eq_getElem?_getD, h]; rfl
theorem of_nth {t : List C} {i : Nat} (h : i < t.length) : t[i]? = some (nth t i) := by
 unfold nth
 rw [List.getD_eq_getElem?_getD, List.getElem?_eq_getElem h]; rfl
/-- The line, from a name on, where the classes at some places have been passed. -/
def lineF (t : List C) : Nat → List Nat → ByteArray → List Nat
 | 0, _, _ => []
 | n + 1, ps, s => match at' t s with
  | none => []
  | some i => if i ∈ ps then [] else i :: lineF t n (ps ++ [i]) (nth t i).super
def line (t : List C) (s : ByteArray) : List Nat := lineF t (t.length + 1) [] s
theorem lineF_none {t : List C} {n : Nat} {ps : List Nat} {s : ByteArray} (h : at' t s = none) : lineF t n ps s = [] := by
 cases n with
 | zero => rfl
 | succ n => unfold lineF; rw [h]
theorem lineF_passed {t : List C} {n : Nat} {ps : List Nat} {s : ByteArray} {i : Nat} (h : at' t s = some i) (hp : i ∈ ps) : lineF t n ps s = [] := by
 cases n with
 | zero => rfl
 | succ n => unfold lineF; rw [h]; exact if_pos hp
theorem lineF_goes {t : List C} {n : Nat} {ps : List Nat} {s : ByteArray} {i : Nat} (h : at' t s = some i) (hp : i ∉ ps) : lineF t (n + 1) ps s = i :: lineF t n (ps ++ [i]) (nth t i).super := by
 conv => lhs; unfold lineF
 rw [h]; exact if_neg hp
theorem lineF_lt (t : List C) : ∀ n ps s i, i ∈ lineF t n ps s → i < t.length
 | 0, _, _, _, h => by cases h
 | n + 1, ps, s, i, h => by
  unfold lineF at h
  split at h
  ·cases h
  ·rename_i k hk
   split at h
   ·cases h
   ·rcases List.mem_cons.1 h with rfl | h
    ·exact (ix_lt hk).1
    ·exact lineF_lt t n _ _ i h
theorem line_lt {t : List C} {s : ByteArray} {i : Nat} (h : i ∈ line t s) : i < t.length := lineF_lt t _ _ _ i h
/-- Places that differ are no more than there are. -/
theorem places_le : ∀ (n : Nat) (ps : List Nat), ps.Nodup → (∀ i ∈ ps, i < n) → ps.length ≤ n
 | 0, ps, _, hl => by
  cases ps with
  | nil => exact Nat.le_refl _
  | cons a r => exact absurd (hl a (List.mem_cons_self ..)) (by omega)
 | n + 1, ps, h, hl => by
  by_cases hn : n ∈ ps
  ·have h1 := places_le n (ps.erase n) (h.erase n) fun i hi => by
    have := (h.mem_erase_iff).1 hi
    have := hl i this.2
    omega
   rw [List.length_erase_of_mem hn] at h1
   omega
  ·have h1 := places_le n ps h fun i hi => by
    have := hl i hi
    have : i ≠ n := fun e => hn (e ▸ hi)
    omega
   omega
theorem lineF_len (t : List C) : ∀ n ps s, (lineF t n ps s).length ≤ n
 | 0, _, _ => Nat.le_refl _
 | n + 1, ps, s => by
  unfold lineF
  split
  ·exact Nat.zero_le _
  ·split
   ·exact Nat.zero_le _
   ·exact Nat.succ_le_succ (lineF_len t n _ _)
theorem line_len (t : List C) (s : ByteArray) : (line t s).length ≤ t.length + 1 := lineF_len t _ _ _
def supers (t : List C) (s : ByteArray) : List ByteArray := (line t s).map fun i => (nth t i).name
def fields (t : List C) (s : ByteArray) : List V := (line t s).reverse.flatMap fun i => (nth t i).fields
def addM (l : List M) (m : M) : List M := match ix M.name l m.name with
 | some k => l.set k m
 | none => l ++ [m]
def methods (t : List C) (s : ByteArray) : List M := ((line t s).reverse.flatMap fun i => (nth t i).methods).foldl addM []
def fieldOf (nm : ByteArray) (c : C) : Option ByteArray := (ix V.name c.fields nm).bind fun k => (c.fields[k]?).map (·.typ)
def field (t : List C) (s nm : ByteArray) : Option ByteArray := (line t s).foldl (fun a i => (fieldOf nm (nth t i)).or a) none
def methodOf (nm : ByteArray) (c : C) : Option M := (ix M.name c.methods nm).bind fun k => c.methods[k]?
def method (t : List C) (s nm : ByteArray) : Option (M × ByteArray) := (line t s).findSome? fun i => (methodOf nm (nth t i)).map fun m => (m, (nth t i).name)
def members (t : List C) (s : ByteArray) : List (ByteArray × Int) := (fields t s).map (fun x => (x.name, (-1 : Int))) ++ (methods t s).map fun m => (m.name, (m.params.length : Int))
def lastOf (nm : ByteArray) (l : List M) : Option M := l.reverse.find? fun m => decide (m.name = nm)
def chkType (t : List C) (s : ByteArray) : Int := if Wrd.kind s = 0 then 5 else if Wrd.kind s = 3 then (if (ix C.name t s).isSome then 0 else 6) else 0
def chkVar (t : List C) (x : V) : Int := if Wrd.name x.name then chkType t x.typ else 5
def chkPs (t : List C) : List V → List V → Int
 | _, [] => 0
 | pre, p :: r => if chkVar t p = 0 then (if (ix V.name pre p.name).isSome then 8 else chkPs t (pre ++ [p]) r) else chkVar t p
def chkSig (t : List C) (m : M) : Int := if Wrd.name m.name then (if chkPs t [] m.params = 0 then chkType t m.res else chkPs t [] m.params) else 5
def sameTys (a b : List V) : Bool := decide (a.length = b.length) && (a.zip b).all fun x => decide (x.1.typ = x.2.typ)
def sameSig (a b : M) : Bool := decide (a.res = b.res) && sameTys a.params b.params
def chkHead (t : List C) (i : Nat) : Int :=
 if Wrd.cls (nth t i).name then (if (ix C.name (t.take i) (nth t i).name).isSome then 8 else if 20 < (nth t i).fields.length then 12 else if 20 < (nth t i).methods.length then 12 else
  if (nth t i).methods.any (fun m => decide (8 < m.params.length)) then 12 else 0) else 5
def chkSuper (t : List C) (i : Nat) : Int :=
 if (nth t i).super = ⟨#[]⟩ then 0 else if (ix C.name t (nth t i).super).isSome then (if (line t (nth t i).super).any (fun j => decide ((nth t j).name = (nth t i).name)) then 9 else 0) else 6
/-- What a class has by a name: a method, one's own or not; or a field. -/
abbrev Held := ByteArray → Option (Option M × Bool)
def Held.put (h : Held) (s : ByteArray) (x : Option M × Bool) : Held := fun y => if y = s then some x else h y
def inhC (h : Held) (c : C) : Held := c.methods.foldl (fun h m => if (h m.name).isSome then h else h.put m.name (some m, false)) (c.fields.foldl (fun h f => h.put f.name (none, false)) h)
def inh (t : List C) (s : ByteArray) : Held := (line t s).foldl (fun h i => inhC h (nth t i)) fun _ => none
def chkFs (t : List C) : Held → List V → Int × Held
 | h, [] => (0, h)
 | h, f :: r => if chkVar t f = 0 then (if (h f.name).isSome then (8, h) else chkFs t (h.put f.name (none, false)) r) else (chkVar t f, h)
def chkM1 (h : Held) (m : M) : Int := match h m.name with
 | none => 0
 | some (o, own) => if own then 8 else match o with
  | none => 8
  | some x => if sameSig x m then 0 else 10
def chkMs (t : List C) : Held → List M → Int
 | _, [] => 0
 | h, m :: r => if chkSig t m = 0 then (if chkM1 h m = 0 then chkMs t (h.put m.name (some m, true)) r else chkM1 h m) else chkSig t m
def chkMembers (t : List C) (i : Nat) : Int :=
 if (chkFs t (inh t (nth t i).super) (nth t i).fields).1 = 0 then chkMs t (chkFs t (inh t (nth t i).super) (nth t i).fields).2 (nth t i).methods else (chkFs t (inh t (nth t i).super) (nth t i).fields).1
/-- The first fault of a round. -/
def chkRound (f : Nat → Int) : Nat → Nat → Int × Int
 | _, 0 => (0, 0)
 | i, n + 1 => if f i = 0 then chkRound f (i + 1) n else (f i, i)
def check (t : List C) : Int × Int :=
 if 40 < t.length then (12, 40) else
 if (chkRound (chkHead t) 0 t.length).1 = 0 then
  (if (chkRound (chkSuper t) 0 t.length).1 = 0 then chkRound (chkMembers t) 0 t.length else chkRound (chkSuper t) 0 t.length)
 else chkRound (chkHead t) 0 t.length
theorem kind_cases (s : ByteArray) : Wrd.kind s = 0 ∨ Wrd.kind s = 1 ∨ Wrd.kind s = 2 ∨ Wrd.kind s = 3 := by
 unfold Wrd.kind
 split
 ·exact .inr (.inl rfl)
 ·split
  ·exact .inr (.inr (.inl rfl))
  ·split
   ·exact .inr (.inr (.inr rfl))
   ·exact .inl rfl
structure Valid (t : List C) : Prop where
 head : ∀ i, i < t.length → chkHead t i = 0
 super : ∀ i, i < t.length → chkSuper t i = 0
 members : ∀ i, i < t.length → chkMembers t i = 0
theorem rnd_all (f : Nat → Int) : ∀ (n i : Nat), (chkRound f i n).1 = 0 → ∀ j, i ≤ j → j < i + n → f j = 0
 | 0, i, _, j, h1, h2 => by omega
 | n + 1, i, h, j, h1, h2 => by
  have e : chkRound f i (n + 1) = if f i = 0 then chkRound f (i + 1) n else (f i, (i : Int)) := rfl
  rw [e] at h
  by_cases hz : f i = 0
  ·rw [if_pos hz] at h
   by_cases hj : j = i
   ·rw [hj]; exact hz
   ·exact rnd_all f n (i + 1) h j (by omega) (by omega)
  ·rw [if_neg hz] at h
   exact absurd h hz
theorem valid_of {t : List C} (h : check t = (0, 0)) : Valid t := by
 unfold check at h
 by_cases h0 : 40 < t.length
 ·rw [if_pos h0] at h; exact absurd h (by decide)
 ·rw [if_neg h0] at h
  by_cases h1 : (chkRound (chkHead t) 0 t.length).1 = 0
  ·rw [if_pos h1] at h
   by_cases h2 : (chkRound (chkSuper t) 0 t.length).1 = 0
   ·rw [if_pos h2] at h
    have h3 : (chkRound (chkMembers t) 0 t.length).1 = 0 := by rw [h]
    exact ⟨fun i hi => rnd_all _ _ _ h1 i (Nat.zero_le _) (by omega), fun i hi => rnd_all _ _ _ h2 i (Nat.zero_le _) (by omega), fun i hi => rnd_all _ _ _ h3 i (Nat.zero_le _) (by omega)⟩
   ·rw [if_neg h2] at h
    exact absurd (by rw [h]) h2
  ·rw [if_neg h1] at h
   exact absurd (by rw [h]) h1
section
variable {t : List C} (hv : Valid t)
include hv
theorem Valid.cls {i : Nat} (hi : i < t.length) : Wrd.cls (nth t i).name = true := by
 have h := hv.head i hi
 unfold chkHead at h
 by_cases hc : Wrd.cls (nth t i).name = true
 ·exact hc
 ·rw [if_neg hc] at h; exact absurd h (by decide)
theorem Valid.fresh {i : Nat} (hi : i < t.length) : ∀ y ∈ t.take i, ¬ y.name = (nth t i).name := by
 have h := hv.head i hi
 unfold chkHead at h
 rw [if_pos (hv.cls hi)] at h
 by_cases hs : (ix C.name (t.take i) (nth t i).name).isSome = true
 ·rw [if_pos hs] at h; exact absurd h (by decide)
 ·exact ix_isNone.1 (by simpa using hs)
theorem Valid.find {i : Nat} (hi : i < t.length) : ix C.name t (nth t i).name = some i := ix_some (of_nth hi) rfl (hv.fresh hi)
theorem Valid.nobody : ix C.name t ⟨#[]⟩ = none := by
 refine ix_none fun y hy e => ?_
 obtain ⟨i, hi, rfl⟩ := List.getElem_of_mem hy
 have h1 := hv.cls hi
 rw [nth_of (List.getElem?_eq_getElem hi), e] at h1
 exact absurd h1 (by decide +kernel)
/-- A class' superclass: none, or a class whose line does not come back. -/
theorem Valid.sup {i : Nat} (hi : i < t.length) : (nth t i).super = ⟨#[]⟩ ∨ ∃ k, k < t.length ∧ (nth t i).super = (nth t k).name ∧ ∀ j ∈ line t (nth t i).super, j ≠ i := by
 have h := hv.super i hi
 unfold chkSuper at h
 by_cases h0 : (nth t i).super = ⟨#[]⟩
 ·exact .inl h0
 ·rw [if_neg h0] at h
  by_cases h1 : (ix C.name t (nth t i).super).isSome = true
  ·rw [if_pos h1] at h
   obtain ⟨k, hk⟩ := Option.isSome_iff_exists.1 h1
   obtain ⟨hk1, hk2⟩ := ix_lt hk
   refine .inr ⟨k, hk1, ?_, fun j hj e => ?_⟩
   ·rw [nth_of (List.getElem?_eq_getElem hk1)]; exact hk2.symm
   ·rw [if_pos] at h
    ·exact absurd h (by decide)
    ·exact List.any_eq_true.2 ⟨j, hj, decide_eq_true (by rw [e])⟩
  ·rw [if_neg h1] at h; exact absurd h (by decide)
omit hv in
theorem lineF_ps : ∀ (m : Nat) (ps qs rs : List Nat) (s : ByteArray), (∀ j, j ∈ rs ↔ j ∈ ps ∨ j ∈ qs) → (∀ j ∈ lineF t m qs s, j ∉ ps) → lineF t m rs s = lineF t m qs s
 | 0, _, _, _, _, _, _ => rfl
 | m + 1, ps, qs, rs, s, hr, hn => by
  cases ha : at' t s with
  | none => rw [lineF_none ha, lineF_none ha]
  | some i =>
   by_cases hq : i ∈ qs
   ·rw [lineF_passed ha hq, lineF_passed ha ((hr i).2 (.inr hq))]
   ·rw [lineF_goes ha hq] at hn ⊢
    have hp : i ∉ ps := hn i (List.mem_cons_self ..)
    have hrs : i ∉ rs := fun h => ((hr i).1 h).elim hp hq
    rw [lineF_goes ha hrs, lineF_ps m ps (qs ++ [i]) (rs ++ [i]) _ (fun j => ?_) (fun j hj => hn j (List.mem_cons_of_mem _ hj))]
    rw [List.mem_append, List.mem_append, hr j, or_assoc]
omit hv in
theorem lineF_fuel : ∀ (m : Nat) (ps : List Nat) (s : ByteArray), ps.Nodup → (∀ j ∈ ps, j < t.length) → t.length < m + ps.length → lineF t (m + 1) ps s = lineF t m ps s
 | 0, ps, s, h1, h2, h3 => by
  have := places_le t.length ps h1 h2
  omega
 | m + 1, ps, s, h1, h2, h3 => by
  cases ha : at' t s with
  | none => rw [lineF_none ha, lineF_none ha]
  | some i =>
   by_cases hq : i ∈ ps
   ·rw [lineF_passed ha hq, lineF_passed ha hq]
   ·rw [lineF_goes ha hq, lineF_goes ha hq, lineF_fuel m (ps ++ [i]) _ ?_ ?_ ?_]
    ·rw [List.nodup_append]
     exact ⟨h1, by simp, fun x hx y hy => by simp at hy; subst hy; rintro rfl; exact hq hx⟩
    ·intro j hj
     rcases List.mem_append.1 hj with hj | hj
     ·exact h2 j hj
     ·simp at hj; rw [hj]; exact (ix_lt ha).1
    ·simp; omega
theorem Valid.line_empty : line t ⟨#[]⟩ = [] := lineF_none hv.nobody
theorem Valid.line_cons {i : Nat} (hi : i < t.length) : line t (nth t i).name = i :: line t (nth t i).super := by
 have e1 : line t (nth t i).name = i :: lineF t t.length [i] (nth t i).super := by
  unfold line
  rw [lineF_goes (hv.find hi) (by simp)]
  rfl
 rw [e1, ← lineF_fuel t.length [i] _ (by simp) (by simpa using hi) (by simp)]
 congr 1
 refine lineF_ps (t.length + 1) [i] [] [i] _ (by simp) fun j hj hji => ?_
 have hji' : j = i := by simpa using hji
 rcases hv.sup hi with h | ⟨k, _, _, h⟩
 ·rw [h] at hj
  have : lineF t (t.length + 1) [] ⟨#[]⟩ = [] := lineF_none hv.nobody
  rw [this] at hj
  cases hj
 ·exact h j hj hji'
/-- What holds of a class without a superclass, and of a class if of its superclass, holds of all. -/
theorem Valid.induct {P : Nat → Prop} (base : ∀ i, i < t.length → (nth t i).super = ⟨#[]⟩ → P i) (step : ∀ i k, i < t.length → k < t.length → (nth t i).super = (nth t k).name → P k → P i) : ∀ i, i < t.length → P i := by
 have key : ∀ (n i : Nat), i < t.length → (line t (nth t i).name).length ≤ n → P i := by
  intro n
  induction n with
  | zero =>
   intro i hi h
   rw [hv.line_cons hi] at h
   simp at h
  | succ n ih =>
   intro i hi h
   rcases hv.sup hi with h0 | ⟨k, hk, hks, _⟩
   ·exact base i hi h0
   ·refine step i k hi hk hks (ih k hk ?_)
    rw [hv.line_cons hi, hks] at h
    simpa using h
 exact fun i hi => key _ i hi (Nat.le_refl _)
theorem Valid.fields_eq {i : Nat} (hi : i < t.length) : fields t (nth t i).name = fields t (nth t i).super ++ (nth t i).fields := by
 unfold fields
 rw [hv.line_cons hi]
 simp
theorem Valid.methods_eq {i : Nat} (hi : i < t.length) : methods t (nth t i).name = (nth t i).methods.foldl addM (methods t (nth t i).super) := by
 unfold methods
 rw [hv.line_cons hi]
 simp
omit hv in
theorem foldl_or (f : Nat → Option ByteArray) : ∀ (l : List Nat) (a : Option ByteArray), l.foldl (fun a i => (f i).or a) a = (l.foldl (fun a i => (f i).or a) none).or a
 | [], a => by simp
 | x :: r, a => by
  rw [List.foldl_cons, foldl_or f r, List.foldl_cons, foldl_or f r ((f x).or none)]
  cases (r.foldl (fun a i => (f i).or a) none) <;> cases f x <;> rfl
theorem Valid.field_eq {i : Nat} (hi : i < t.length) (nm : ByteArray) : field t (nth t i).name nm = (field t (nth t i).super nm).or (fieldOf nm (nth t i)) := by
 unfold field
 rw [hv.line_cons hi, List.foldl_cons, foldl_or]
 simp
theorem Valid.method_eq {i : Nat} (hi : i < t.length) (nm : ByteArray) : method t (nth t i).name nm = ((methodOf nm (nth t i)).map fun m => (m, (nth t i).name)).or (method t (nth t i).super nm) := by
 unfold method
 rw [hv.line_cons hi, List.findSome?_cons]
 cases (methodOf nm (nth t i)) <;> rfl
end
theorem ix_find {α : Type} (nm : α → ByteArray) (s : ByteArray) : ∀ l : List α, ((ix nm l s).bind fun k => l[k]?) = l.find? fun x => decide (nm x = s)
 | [] => rfl
 | x :: r => by
  have ih := ix_find nm s r
  unfold ix at ih ⊢
  rw [List.findIdx?_cons, List.find?_cons]
  by_cases h : nm x = s
  ·simp [h]
  ·simp only [decide_eq_false h, if_neg, Bool.false_eq_true, if_false]
   rw [← ih]
   cases List.findIdx? (fun x => decide (nm x = s)) r <;> rfl
theorem methodOf_find (s : ByteArray) (c : C) : methodOf s c = c.methods.find? fun m => decide (m.name = s) := ix_find M.name s c.methods
theorem fieldOf_find (s : ByteArray) (c : C) : fieldOf s c = (c.fields.find? fun f => decide (f.name = s)).map (·.typ) := by
 rw [← ix_find V.name s c.fields]
 unfold fieldOf
 cases ix V.name c.fields s <;> rfl
def hasF (s : ByteArray) (l : List V) : Prop := ∃ f ∈ l, f.name = s
def hasM (s : ByteArray) (l : List M) : Prop := ∃ m ∈ l, m.name = s
theorem foldF (s : ByteArray) : ∀ (l : List V) (h : Held), (hasF s l → (l.foldl (fun h f => h.put f.name (none, false)) h) s = some (none, false)) ∧ (¬ hasF s l → (l.foldl (fun h f => h.put f.name (none, false)) h) s = h s)
 | [], h => ⟨fun ⟨_, hf, _⟩ => (by cases hf), fun _ => rfl⟩
 | f :: r, h => by
  obtain ⟨i1, i2⟩ := foldF s r (h.put f.name (none, false))
  rw [List.foldl_cons]
  by_cases hr : hasF s r
  ·exact ⟨fun _ => i1 hr, fun hn => absurd ⟨_, List.mem_cons_of_mem _ hr.choose_spec.1, hr.choose_spec.2⟩ hn⟩
  ·rw [i2 hr]
   unfold Held.put
   by_cases hf : s = f.name
   ·rw [if_pos hf]
    exact ⟨fun _ => rfl, fun hn => absurd ⟨f, List.mem_cons_self .., hf.symm⟩ hn⟩
   ·rw [if_neg hf]
    refine ⟨fun ⟨g, hg, e⟩ => ?_, fun _ => rfl⟩
    rcases List.mem_cons.1 hg with rfl | hg
    ·exact absurd e.symm hf
    ·exact absurd ⟨g, hg, e⟩ hr
theorem foldM (s : ByteArray) : ∀ (l : List M) (h : Held), (l.foldl (fun h m => if (h m.name).isSome then h else h.put m.name (some m, false)) h) s = (h s).or ((l.find? fun m => decide (m.name = s)).map fun m => (some m, false))
 | [], h => by simp
 | m :: r, h => by
  rw [List.foldl_cons, foldM s r, List.find?_cons]
  by_cases hs : m.name = s
  ·subst hs
   simp only [decide_true]
   cases hh : h m.name with
   | some x => simp [hh]
   | none => simp [Held.put]
  ·simp only [decide_eq_false hs]
   have : (if (h m.name).isSome then h else h.put m.name (some m, false)) s = h s := by
    split
    ·rfl
    ·unfold Held.put
     rw [if_neg (fun e => hs e.symm)]
   rw [this]
theorem inhC_spec (h : Held) (c : C) (s : ByteArray) : (hasF s c.fields → inhC h c s = some (none, false)) ∧ (¬ hasF s c.fields → inhC h c s = (h s).or ((methodOf s c).map fun m => (some m, false))) := by
 unfold inhC
 rw [foldM, methodOf_find]
 obtain ⟨i1, i2⟩ := foldF s c.fields h
 exact ⟨fun hf => by rw [i1 hf]; rfl, fun hn => by rw [i2 hn]⟩
theorem inhL_spec (t : List C) (s : ByteArray) : ∀ (L : List Nat) (h : Held), ((∃ j ∈ L, hasF s (nth t j).fields) → (L.foldl (fun h i => inhC h (nth t i)) h) s = some (none, false)) ∧
  ((¬ ∃ j ∈ L, hasF s (nth t j).fields) → (L.foldl (fun h i => inhC h (nth t i)) h) s = (h s).or ((L.findSome? fun j => methodOf s (nth t j)).map fun m => (some m, false)))
 | [], h => ⟨fun ⟨_, hj, _⟩ => (by cases hj), fun _ => (by simp)⟩
 | j :: r, h => by
  obtain ⟨i1, i2⟩ := inhL_spec t s r (inhC h (nth t j))
  obtain ⟨c1, c2⟩ := inhC_spec h (nth t j) s
  rw [List.foldl_cons]
  by_cases hr : ∃ k ∈ r, hasF s (nth t k).fields
  ·refine ⟨fun _ => i1 hr, fun hn => absurd ?_ hn⟩
   obtain ⟨k, hk, hf⟩ := hr
   exact ⟨k, List.mem_cons_of_mem _ hk, hf⟩
  ·rw [i2 hr]
   by_cases hj : hasF s (nth t j).fields
   ·rw [c1 hj]
    exact ⟨fun _ => rfl, fun hn => absurd ⟨j, List.mem_cons_self .., hj⟩ hn⟩
   ·rw [c2 hj]
    refine ⟨fun ⟨k, hk, hf⟩ => ?_, fun _ => ?_⟩
    ·rcases List.mem_cons.1 hk with rfl | hk
     ·exact absurd hf hj
     ·exact absurd ⟨k, hk, hf⟩ hr
    ·rw [List.findSome?_cons]
     cases h s <;> cases methodOf s (nth t j) <;> simp
theorem hasF_fields (t : List C) (c s : ByteArray) : hasF s (fields t c) ↔ ∃ j ∈ line t c, hasF s (nth t j).fields := by
 unfold fields hasF
 constructor
 ·rintro ⟨f, hf, e⟩
  obtain ⟨j, hj, hf⟩ := List.mem_flatMap.1 hf
  exact ⟨j, List.mem_reverse.1 hj, f, hf, e⟩
 ·rintro ⟨j, hj, f, hf, e⟩
  exact ⟨f, List.mem_flatMap.2 ⟨j, List.mem_reverse.2 hj, hf⟩, e⟩
theorem method_find (t : List C) (c s : ByteArray) : (method t c s).map Prod.fst = (line t c).findSome? fun j => methodOf s (nth t j) := by
 unfold method
 induction line t c with
 | nil => rfl
 | cons j r ih =>
  rw [List.findSome?_cons, List.findSome?_cons]
  cases methodOf s (nth t j) with
  | none => simpa using ih
  | some m => rfl
/-- What is inherited from a class: a field's name is a field's; else a method's. -/
theorem inh_spec (t : List C) (c s : ByteArray) : (hasF s (fields t c) → inh t c s = some (none, false)) ∧ (¬ hasF s (fields t c) → inh t c s = ((method t c s).map Prod.fst).map fun m => (some m, false)) := by
 unfold inh
 obtain ⟨i1, i2⟩ := inhL_spec t s (line t c) fun _ => none
 rw [hasF_fields, method_find]
 exact ⟨i1, fun hn => by rw [i2 hn]; rfl⟩
/-- Behind the check of a class' fields. -/
theorem chkFs_spec (t : List C) : ∀ (fs : List V) (h h' : Held), chkFs t h fs = (0, h') → (∀ f ∈ fs, h f.name = none) ∧ (fs.map (·.name)).Nodup ∧ ∀ s, (hasF s fs → h' s = some (none, false)) ∧ (¬ hasF s fs → h' s = h s)
 | [], h, h', e => by
  cases e
  exact ⟨fun f hf => (by cases hf), List.nodup_nil, fun s => ⟨fun ⟨_, hf, _⟩ => (by cases hf), fun _ => rfl⟩⟩
 | f :: r, h, h', e => by
  unfold chkFs at e
  by_cases h0 : chkVar t f = 0
  ·rw [if_pos h0] at e
   by_cases h1 : (h f.name).isSome = true
   ·rw [if_pos h1] at e; cases e
   ·rw [if_neg h1] at e
    obtain ⟨i1, i2, i3⟩ := chkFs_spec t r _ _ e
    have hfn : h f.name = none := by simpa using h1
    have hput : ∀ s, ¬ s = f.name → (h.put f.name (none, false)) s = h s := fun s hs => by unfold Held.put; rw [if_neg hs]
    have hpf : (h.put f.name (none, false)) f.name = some (none, false) := by unfold Held.put; rw [if_pos rfl]
    refine ⟨fun g hg => ?_, ?_, fun s => ⟨fun ⟨g, hg, eg⟩ => ?_, fun hn => ?_⟩⟩
    ·rcases List.mem_cons.1 hg with rfl | hg
     ·exact hfn
     ·have := i1 g hg
      by_cases hs : g.name = f.name
      ·rw [hs, hpf] at this; cases this
      ·rwa [hput _ hs] at this
    ·rw [List.map_cons, List.nodup_cons]
     refine ⟨fun hm => ?_, i2⟩
     obtain ⟨g, hg, eg⟩ := List.mem_map.1 hm
     have := i1 g hg
     rw [eg, hpf] at this
     cases this
    ·by_cases hr : hasF s r
     ·exact (i3 s).1 hr
     ·rw [(i3 s).2 hr]
      rcases List.mem_cons.1 hg with rfl | hg
      ·rw [← eg, hpf]
      ·exact absurd ⟨g, hg, eg⟩ hr
    ·have hr : ¬ hasF s r := fun ⟨g, hg, eg⟩ => hn ⟨g, List.mem_cons_of_mem _ hg, eg⟩
     rw [(i3 s).2 hr, hput s fun es => hn ⟨f, List.mem_cons_self .., es.symm⟩]
  ·rw [if_neg h0] at e
   injection e with e1 e2
   exact absurd e1 h0
/-- Behind the check of a class' methods. -/
theorem chkMs_spec (t : List C) : ∀ (ms : List M) (h : Held), chkMs t h ms = 0 → (ms.map (·.name)).Nodup ∧ ∀ m ∈ ms, h m.name = none ∨ ∃ x, h m.name = some (some x, false) ∧ sameSig x m = true
 | [], h, _ => ⟨List.nodup_nil, fun m hm => (by cases hm)⟩
 | m :: r, h, e => by
  unfold chkMs at e
  by_cases h0 : chkSig t m = 0
  ·rw [if_pos h0] at e
   by_cases h1 : chkM1 h m = 0
   ·rw [if_pos h1] at e
    obtain ⟨i1, i2⟩ := chkMs_spec t r _ e
    have hput : ∀ s, ¬ s = m.name → (h.put m.name (some m, true)) s = h s := fun s hs => by unfold Held.put; rw [if_neg hs]
    have hpm : (h.put m.name (some m, true)) m.name = some (some m, true) := by unfold Held.put; rw [if_pos rfl]
    refine ⟨?_, fun x hx => ?_⟩
    ·rw [List.map_cons, List.nodup_cons]
     refine ⟨fun hm => ?_, i1⟩
     obtain ⟨g, hg, eg⟩ := List.mem_map.1 hm
     rcases i2 g hg with h2 | ⟨y, h2, _⟩
     ·rw [eg, hpm] at h2; cases h2
     ·rw [eg, hpm] at h2; cases h2
    ·rcases List.mem_cons.1 hx with rfl | hx
     ·unfold chkM1 at h1
      cases hh : h x.name with
      | none => exact .inl rfl
      | some z =>
       obtain ⟨o, own⟩ := z
       rw [hh] at h1
       cases own with
       | true => exact absurd h1 (by simp)
       | false =>
        cases o with
        | none => exact absurd h1 (by simp)
        | some y =>
         refine .inr ⟨y, rfl, ?_⟩
         by_cases hs : sameSig y x = true
         ·exact hs
         ·simp [hs] at h1
     ·by_cases hs : x.name = m.name
      ·rcases i2 x hx with h2 | ⟨y, h2, _⟩
       ·rw [hs, hpm] at h2; cases h2
       ·rw [hs, hpm] at h2; cases h2
      ·have := i2 x hx
       rwa [hput _ hs] at this
   ·rw [if_neg h1] at e; exact absurd e h1
  ·rw [if_neg h0] at e; exact absurd e h0
theorem find_nodup {α : Type} (nm : α → ByteArray) : ∀ {l : List α} {x : α}, (l.map nm).Nodup → x ∈ l → (l.find? fun y => decide (nm y = nm x)) = some x
 | y :: r, x, hn, hx => by
  rw [List.map_cons, List.nodup_cons] at hn
  rw [List.find?_cons]
  rcases List.mem_cons.1 hx with rfl | hx
  ·simp
  ·have : ¬ nm y = nm x := fun e => hn.1 (List.mem_map.2 ⟨x, hx, e.symm⟩)
   simp only [decide_eq_false this]
   exact find_nodup nm hn.2 hx
theorem find_no {α : Type} (nm : α → ByteArray) {l : List α} {s : ByteArray} (h : ¬ ∃ x ∈ l, nm x = s) : (l.find? fun y => decide (nm y = s)) = none := by
 rw [List.find?_eq_none]
 intro x hx e
 exact h ⟨x, hx, of_decide_eq_true e⟩
theorem nodup_eq {α : Type} (nm : α → ByteArray) {l : List α} (hn : (l.map nm).Nodup) {x y : α} (hx : x ∈ l) (hy : y ∈ l) (e : nm x = nm y) : x = y := by
 have h1 := find_nodup nm hn hx
 have h2 := find_nodup nm hn hy
 rw [e, h2] at h1
 exact (Option.some.inj h1).symm
theorem addM_names (l : List M) (m : M) : (hasM m.name l → (addM l m).map (·.name) = l.map (·.name)) ∧ (¬ hasM m.name l → (addM l m).map (·.name) = l.map (·.name) ++ [m.name]) := by
 unfold addM
 cases h : ix M.name l m.name with
 | none => exact ⟨fun ⟨x, hx, e⟩ => absurd e (ix_isNone.1 h x hx), fun _ => by simp⟩
 | some k =>
  obtain ⟨hk, he⟩ := ix_lt h
  refine ⟨fun _ => ?_, fun hn => absurd ⟨l[k], List.getElem_mem hk, he⟩ hn⟩
  show (l.set k m).map (·.name) = l.map (·.name)
  rw [List.map_set]
  refine List.ext_getElem? fun j => ?_
  rw [List.getElem?_set]
  split
  ·rename_i hj
   subst hj
   simp [hk, he]
  ·rfl
theorem addM_nodup {l : List M} {m : M} (h : (l.map (·.name)).Nodup) : ((addM l m).map (·.name)).Nodup := by
 obtain ⟨a1, a2⟩ := addM_names l m
 by_cases hn : hasM m.name l
 ·rw [a1 hn]; exact h
 ·rw [a2 hn, List.nodup_append]
  refine ⟨h, by simp, fun a ha b hb => ?_⟩
  simp at hb
  subst hb
  rintro rfl
  obtain ⟨x, hx, e⟩ := List.mem_map.1 ha
  exact hn ⟨x, hx, e⟩
theorem addM_mem {l : List M} {m : M} (h : (l.map (·.name)).Nodup) (x : M) : x ∈ addM l m ↔ x = m ∨ (x ∈ l ∧ ¬ x.name = m.name) := by
 have hnd := addM_nodup (m := m) h
 have hm : m ∈ addM l m := by
  unfold addM
  cases hi : ix M.name l m.name with
  | none => simp
  | some k =>
   obtain ⟨hk, _⟩ := ix_lt hi
   exact List.mem_set hk m
 constructor
 ·intro hx
  by_cases e : x = m
  ·exact .inl e
  ·refine .inr ⟨?_, fun en => e (nodup_eq M.name hnd hx hm en)⟩
   unfold addM at hx
   cases hi : ix M.name l m.name with
   | none =>
    rw [hi] at hx
    rcases List.mem_append.1 hx with hx | hx
    ·exact hx
    ·simp at hx; exact absurd hx e
   | some k =>
    rw [hi] at hx
    rcases List.mem_or_eq_of_mem_set hx with hx | hx
    ·exact hx
    ·exact absurd hx e
 ·rintro (rfl | ⟨hx, hn⟩)
  ·exact hm
  ·unfold addM
   cases hi : ix M.name l m.name with
   | none => exact List.mem_append_left _ hx
   | some k =>
    obtain ⟨hk, he⟩ := ix_lt hi
    obtain ⟨j, hj, rfl⟩ := List.getElem_of_mem hx
    have hne : k ≠ j := by rintro rfl; exact hn he
    rw [List.mem_iff_getElem?]
    exact ⟨j, by rw [List.getElem?_set_ne hne]; exact List.getElem?_eq_getElem hj⟩
theorem foldM_nodup : ∀ (ms l : List M), (l.map (·.name)).Nodup → ((ms.foldl addM l).map (·.name)).Nodup
 | [], _, h => h
 | m :: r, l, h => foldM_nodup r (addM l m) (addM_nodup h)
theorem foldM_mem : ∀ (ms l : List M), (l.map (·.name)).Nodup → (ms.map (·.name)).Nodup → ∀ x, x ∈ ms.foldl addM l ↔ x ∈ ms ∨ (x ∈ l ∧ ∀ m ∈ ms, ¬ x.name = m.name)
 | [], l, _, _, x => by simp
 | m :: r, l, h, hn, x => by
  rw [List.map_cons, List.nodup_cons] at hn
  rw [List.foldl_cons, foldM_mem r (addM l m) (addM_nodup h) hn.2 x, addM_mem h x]
  constructor
  ·rintro (hx | ⟨rfl | ⟨hx, he⟩, hr⟩)
   ·exact .inl (List.mem_cons_of_mem _ hx)
   ·exact .inl (List.mem_cons_self ..)
   ·refine .inr ⟨hx, fun y hy => ?_⟩
    rcases List.mem_cons.1 hy with rfl | hy
    ·exact he
    ·exact hr y hy
  ·rintro (hx | ⟨hx, hr⟩)
   ·rcases List.mem_cons.1 hx with rfl | hx
    ·exact .inr ⟨.inl rfl, fun y hy e => hn.1 (List.mem_map.2 ⟨y, hy, e.symm⟩)⟩
    ·exact .inl hx
   ·exact .inr ⟨.inr ⟨hx, hr m (List.mem_cons_self ..)⟩, fun y hy => hr y (List.mem_cons_of_mem _ hy)⟩
/-- What holds of a class' members. -/
structure Good (t : List C) (c : ByteArray) : Prop where
 fn : ((fields t c).map (·.name)).Nodup
 mn : ((methods t c).map (·.name)).Nodup
 dj : ∀ s, hasF s (fields t c) → ¬ hasM s (methods t c)
 fd : ∀ x ∈ fields t c, field t c x.name = some x.typ
 fN : ∀ s, ¬ hasF s (fields t c) → field t c s = none
 md : ∀ m ∈ methods t c, ∃ j, j < t.length ∧ method t c m.name = some (m, (nth t j).name)
 mN : ∀ s, ¬ hasM s (methods t c) → method t c s = none
 ar : ∀ s, ((line t c).findSome? fun j => (lastOf s (nth t j).methods).map fun m => (m.params.length : Int)) = (method t c s).map fun x => (x.1.params.length : Int)
theorem lastOf_eq {l : List M} (hn : (l.map (·.name)).Nodup) (s : ByteArray) : lastOf s l = l.find? fun m => decide (m.name = s) := by
 unfold lastOf
 by_cases h : ∃ m ∈ l, m.name = s
 ·obtain ⟨m, hm, rfl⟩ := h
  rw [find_nodup M.name hn hm]
  refine find_nodup M.name (l := l.reverse) ?_ (List.mem_reverse.2 hm)
  rw [List.map_reverse]
  unfold List.Nodup at hn ⊢
  rw [List.pairwise_reverse]
  exact hn.imp fun h => h.symm
 ·rw [find_no M.name h]
  refine find_no M.name (l := l.reverse) ?_
  rintro ⟨m, hm, e⟩
  exact h ⟨m, List.mem_reverse.1 hm, e⟩
section
variable {t : List C} (hv : Valid t)
include hv
theorem Valid.good_empty : Good t ⟨#[]⟩ := by
 have hl := hv.line_empty
 constructor
 ·unfold fields; rw [hl]; exact List.nodup_nil
 ·unfold methods; rw [hl]; exact List.nodup_nil
 ·intro s ⟨f, hf, _⟩; unfold fields at hf; rw [hl] at hf; cases hf
 ·intro x hx; unfold fields at hx; rw [hl] at hx; cases hx
 ·intro s _; unfold field; rw [hl]; rfl
 ·intro m hm; unfold methods at hm; rw [hl] at hm; cases hm
 ·intro s _; unfold method; rw [hl]; rfl
 ·intro s; unfold method; rw [hl]; rfl
/-- What the check of a class' members says. -/
theorem Valid.mem {i : Nat} (hi : i < t.length) : ∃ h1, chkFs t (inh t (nth t i).super) (nth t i).fields = (0, h1) ∧ chkMs t h1 (nth t i).methods = 0 := by
 have h := hv.members i hi
 unfold chkMembers at h
 by_cases h0 : (chkFs t (inh t (nth t i).super) (nth t i).fields).1 = 0
 ·rw [if_pos h0] at h
  exact ⟨_, Prod.ext h0 rfl, h⟩
 ·rw [if_neg h0] at h
  exact absurd h h0
theorem Valid.step {i : Nat} (hi : i < t.length) (g : Good t (nth t i).super) : Good t (nth t i).name ∧ ∀ m ∈ methods t (nth t i).super, ∃ m' ∈ methods t (nth t i).name, m'.name = m.name ∧ (m' = m ∨ sameSig m m' = true) := by
 obtain ⟨h1, e1, e2⟩ := hv.mem hi
 obtain ⟨f1, f2, f3⟩ := chkFs_spec t _ _ _ e1
 obtain ⟨m1, m2⟩ := chkMs_spec t _ _ e2
 have hF := hv.fields_eq hi
 have hM := hv.methods_eq hi
 have memM := foldM_mem (nth t i).methods (methods t (nth t i).super) g.mn m1
 -- own fields are new
 have fnew : ∀ f ∈ (nth t i).fields, ¬ hasF f.name (fields t (nth t i).super) ∧ method t (nth t i).super f.name = none := by
  intro f hf
  have h0 := f1 f hf
  obtain ⟨i1, i2⟩ := inh_spec t (nth t i).super f.name
  by_cases hh : hasF f.name (fields t (nth t i).super)
  ·rw [i1 hh] at h0; cases h0
  ·rw [i2 hh] at h0
   refine ⟨hh, ?_⟩
   cases hm : method t (nth t i).super f.name with
   | none => rfl
   | some z => rw [hm] at h0; cases h0
 -- own methods have no field's name
 have mnew : ∀ m ∈ (nth t i).methods, ¬ hasF m.name (nth t i).fields ∧ ¬ hasF m.name (fields t (nth t i).super) := by
  intro m hm
  have h0 := m2 m hm
  obtain ⟨i1, i2⟩ := inh_spec t (nth t i).super m.name
  by_cases ho : hasF m.name (nth t i).fields
  ·rw [(f3 m.name).1 ho] at h0
   rcases h0 with h0 | ⟨x, h0, _⟩ <;> cases h0
  ·refine ⟨ho, fun hh => ?_⟩
   rw [(f3 m.name).2 ho, i1 hh] at h0
   rcases h0 with h0 | ⟨x, h0, _⟩ <;> cases h0
 have msup : ∀ m ∈ (nth t i).methods, ∀ x ∈ methods t (nth t i).super, x.name = m.name → sameSig x m = true := by
  intro m hm x hx e
  have h0 := m2 m hm
  obtain ⟨n1, n2⟩ := mnew m hm
  obtain ⟨i1, i2⟩ := inh_spec t (nth t i).super m.name
  rw [(f3 m.name).2 n1, i2 n2] at h0
  obtain ⟨j, _, hj⟩ := g.md x hx
  rw [← e, hj] at h0
  rcases h0 with h0 | ⟨y, h0, hs⟩
  ·cases h0
  ·injection h0 with h0
   injection h0 with h0 _
   injection h0 with h0
   have h0' : x = y := h0
   rw [h0']; exact hs
 have hmo : ∀ s, methodOf s (nth t i) = (nth t i).methods.find? fun m => decide (m.name = s) := fun s => methodOf_find s _
 refine ⟨⟨?_, ?_, ?_, ?_, ?_, ?_, ?_, ?_⟩, ?_⟩
 ·rw [hF, List.map_append, List.nodup_append]
  refine ⟨g.fn, f2, fun a ha b hb => ?_⟩
  rintro rfl
  obtain ⟨x, hx, ex⟩ := List.mem_map.1 ha
  obtain ⟨y, hy, ey⟩ := List.mem_map.1 hb
  exact (fnew y hy).1 ⟨x, hx, by rw [ey]; exact ex⟩
 ·rw [hM]; exact foldM_nodup _ _ g.mn
 ·rintro s ⟨f, hf, rfl⟩ ⟨m, hm, em⟩
  rw [hM, memM] at hm
  rw [hF] at hf
  rcases hm with hm | ⟨hm, _⟩
  ·rcases List.mem_append.1 hf with hf | hf
   ·exact (mnew m hm).2 ⟨f, hf, em.symm⟩
   ·exact (mnew m hm).1 ⟨f, hf, em.symm⟩
  ·rcases List.mem_append.1 hf with hf | hf
   ·exact g.dj f.name ⟨f, hf, rfl⟩ ⟨m, hm, em⟩
   ·obtain ⟨j, _, hj⟩ := g.md m hm
    rw [em, (fnew f hf).2] at hj
    cases hj
 ·intro x hx
  rw [hF] at hx
  rw [hv.field_eq hi]
  rcases List.mem_append.1 hx with hx | hx
  ·rw [g.fd x hx]; rfl
  ·rw [g.fN x.name (fnew x hx).1, fieldOf_find, find_nodup V.name f2 hx]; rfl
 ·intro s hs
  rw [hF] at hs
  have h2 : ¬ hasF s (fields t (nth t i).super) := fun ⟨f, hf, e⟩ => hs ⟨f, List.mem_append_left _ hf, e⟩
  have h3 : ¬ hasF s (nth t i).fields := fun ⟨f, hf, e⟩ => hs ⟨f, List.mem_append_right _ hf, e⟩
  rw [hv.field_eq hi, g.fN s h2, fieldOf_find, find_no V.name h3]; rfl
 ·intro m hm
  rw [hM, memM] at hm
  rw [hv.method_eq hi, hmo]
  rcases hm with hm | ⟨hm, hn⟩
  ·rw [find_nodup M.name m1 hm]
   exact ⟨i, hi, rfl⟩
  ·rw [find_no M.name (fun ⟨y, hy, e⟩ => hn y hy e.symm)]
   obtain ⟨j, hj, e⟩ := g.md m hm
   exact ⟨j, hj, by rw [e]; rfl⟩
 ·intro s hs
  rw [hv.method_eq hi, hmo]
  have h2 : ¬ ∃ m ∈ (nth t i).methods, m.name = s := fun ⟨m, hm, e⟩ => hs ⟨m, by rw [hM, memM]; exact .inl hm, e⟩
  have h3 : ¬ hasM s (methods t (nth t i).super) := fun ⟨m, hm, e⟩ => hs ⟨m, by
   rw [hM, memM]
   exact .inr ⟨hm, fun y hy ey => h2 ⟨y, hy, by rw [← ey]; exact e⟩⟩, e⟩
  rw [find_no M.name h2, g.mN s h3]; rfl
 ·intro s
  rw [hv.line_cons hi, List.findSome?_cons, hv.method_eq hi, hmo, lastOf_eq m1, g.ar s]
  cases (nth t i).methods.find? (fun m => decide (m.name = s)) <;> rfl
 ·intro m hm
  by_cases h : ∃ y ∈ (nth t i).methods, m.name = y.name
  ·obtain ⟨y, hy, e⟩ := h
   exact ⟨y, by rw [hM, memM]; exact .inl hy, e.symm, .inr (msup y hy m hm e)⟩
  ·exact ⟨m, by rw [hM, memM]; exact .inr ⟨hm, fun y hy e => h ⟨y, hy, e⟩⟩, rfl, .inl rfl⟩
theorem Valid.good {i : Nat} (hi : i < t.length) : Good t (nth t i).name :=
 hv.induct (P := fun i => Good t (nth t i).name) (fun i hi h => (hv.step hi (h ▸ hv.good_empty)).1) (fun i k hi hk h g => (hv.step hi (h ▸ g)).1) i hi
end
theorem Good.names {t : List C} {c : ByteArray} (g : Good t c) : ((members t c).map (·.1)).Nodup := by
 have e : (members t c).map (·.1) = (fields t c).map (·.name) ++ (methods t c).map (·.name) := by
  unfold members; simp [List.map_append, List.map_map, Function.comp_def]
 rw [e, List.nodup_append]
 refine ⟨g.fn, g.mn, ?_⟩
 intro a ha b hb e
 obtain ⟨f, hf, rfl⟩ := List.mem_map.1 ha
 obtain ⟨m, hm, rfl⟩ := List.mem_map.1 hb
 exact g.dj f.name ⟨f, hf, rfl⟩ ⟨m, hm, e.symm⟩
theorem lineF_nodup (t : List C) : ∀ (m : Nat) (ps : List Nat) (s : ByteArray), (lineF t m ps s).Nodup ∧ (∀ j ∈ lineF t m ps s, j ∉ ps ∧ j < t.length)
 | 0, _, _ => ⟨List.nodup_nil, fun j h => by cases h⟩
 | m + 1, ps, s => by
  unfold lineF
  cases h : at' t s with
  | none => exact ⟨List.nodup_nil, fun j h => by cases h⟩
  | some i =>
   by_cases hp : i ∈ ps
   ·simp only [if_pos hp]; exact ⟨List.nodup_nil, fun j h => by cases h⟩
   ·simp only [if_neg hp]
    obtain ⟨h1, h2⟩ := lineF_nodup t m (ps ++ [i]) (nth t i).super
    refine ⟨List.nodup_cons.2 ⟨fun hm => (h2 i hm).1 (by simp), h1⟩, fun j hj => ?_⟩
    rcases List.mem_cons.1 hj with rfl | hj
    ·exact ⟨hp, (ix_lt h).1⟩
    ·exact ⟨fun hm => (h2 j hj).1 (List.mem_append.2 (.inl hm)), (h2 j hj).2⟩
theorem line_short (t : List C) (s : ByteArray) : (line t s).length ≤ t.length := by
 obtain ⟨h1, h2⟩ := lineF_nodup t (t.length + 1) [] s
 exact places_le _ _ h1 fun j hj => (h2 j hj).2
theorem supers_at (t : List C) (s : ByteArray) : (supers t s).length = (line t s).length := by unfold supers; simp
instance decMem (s : ByteArray) (l : List ByteArray) : Decidable (s ∈ l) := decidable_of_iff ((l.any fun x => decide (x = s)) = true) (by simp)
def basics : List ByteArray := [⟨#[105, 110, 116]⟩, ⟨#[114, 101, 97, 108]⟩, ⟨#[98, 111, 111, 108]⟩, ⟨#[115, 116, 114]⟩, ⟨#[117, 110, 105, 116]⟩, ⟨#[63]⟩]
def isC (t : List C) (s : ByteArray) : Bool := (ix C.name t s).isSome
def isT (t : List C) (s : ByteArray) : Bool := decide (s ∈ basics) || isC t s
def ok (t : List C) : Bool := decide ((check t).1 = 0)
def up (t : List C) (s : ByteArray) : List ByteArray := if isC t s then supers t s else [s]
def ats (t : List C) (s u : ByteArray) : Bool := isT t s && isT t u && ok t
def sub (t : List C) (s u : ByteArray) : Bool := ats t s u && decide (u ∈ up t s)
theorem rnd_zero (f : Nat → Int) : ∀ (n i : Nat), (chkRound f i n).1 = 0 → chkRound f i n = (0, 0)
 | 0, i, _ => rfl
 | n + 1, i, h => by
  have e : chkRound f i (n + 1) = if f i = 0 then chkRound f (i + 1) n else (f i, (i : Int)) := rfl
  rw [e] at h ⊢
  by_cases hz : f i = 0
  ·rw [if_pos hz] at h ⊢; exact rnd_zero f n (i + 1) h
  ·rw [if_neg hz] at h; exact absurd h hz
theorem check_zero {t : List C} (h : (check t).1 = 0) : check t = (0, 0) := by
 unfold check at h ⊢
 by_cases h0 : 40 < t.length
 ·rw [if_pos h0] at h; exact absurd h (by decide)
 ·rw [if_neg h0] at h ⊢
  by_cases h1 : (chkRound (chkHead t) 0 t.length).1 = 0
  ·rw [if_pos h1] at h ⊢
   by_cases h2 : (chkRound (chkSuper t) 0 t.length).1 = 0
   ·rw [if_pos h2] at h ⊢
    exact rnd_zero _ _ _ h
   ·rw [if_neg h2] at h; exact absurd h h2
  ·rw [if_neg h1] at h; exact absurd h h1
theorem ok_valid {t : List C} (h : ok t = true) : Valid t := valid_of (check_zero (of_decide_eq_true h))
theorem isC_at {t : List C} {s : ByteArray} (h : isC t s = true) : ∃ i, i < t.length ∧ s = (nth t i).name := by
 obtain ⟨k, hk⟩ := Option.isSome_iff_exists.1 h
 obtain ⟨h1, h2⟩ := ix_lt hk
 exact ⟨k, h1, by rw [nth_of (List.getElem?_eq_getElem h1)]; exact h2.symm⟩
theorem isT_own {t : List C} {s : ByteArray} (h : s ∈ basics) : isT t s = true := by unfold isT; rw [decide_eq_true h]; rfl
section
variable {t : List C} (hv : Valid t)
include hv
theorem Valid.isC {i : Nat} (hi : i < t.length) : isC t (nth t i).name = true := by unfold Tab.isC; rw [hv.find hi]; rfl
theorem Valid.up_cls {i : Nat} (hi : i < t.length) : up t (nth t i).name = (line t (nth t i).name).map fun k => (nth t k).name := by
 unfold up; rw [hv.isC hi]; rfl
theorem Valid.up_head (s : ByteArray) : ∃ r, up t s = s :: r := by
 cases hc : Tab.isC t s with
 | true =>
  obtain ⟨i, hi, rfl⟩ := isC_at hc
  rw [hv.up_cls hi, hv.line_cons hi]
  exact ⟨_, rfl⟩
 | false => exact ⟨[], by unfold up; rw [hc]; rfl⟩
theorem Valid.up_self (s : ByteArray) : s ∈ up t s := by
 obtain ⟨r, e⟩ := hv.up_head s
 rw [e]; exact List.mem_cons_self ..
omit hv in
end
end Go.Proofs.YtjdkegfckkbpeaaGreatDoor.Tab
namespace Go.Proofs.YtjdkegfckkbpeaaGreatDoor
open Go.ChangeShapes Go.WideShapes Go.ChangeAt Go.RowKit
structure Kept (w w' : World) : Prop where
 os : w'.os = w.os
 output : w'.output = w.output
 size : w.heap.size ≤ w'.heap.size
 block : ∀ k, k < w.heap.size → w'.heap[k]? = w.heap[k]?
theorem Kept.refl (w : World) : Kept w w := ⟨rfl, rfl, Nat.le_refl _, fun _ _ => rfl⟩
theorem Kept.trans {a b c : World} (h : Kept a b) (k : Kept b c) : Kept a c :=
 ⟨k.os.trans h.os, k.output.trans h.output, Nat.le_trans h.size k.size, fun i hi => (k.block i (Nat.lt_of_lt_of_le hi h.size)).trans (h.block i hi)⟩
theorem Kept.of_below {w w' : World} (h : Below w.heap.size w w') : Kept w w' := ⟨h.os, h.output, h.size, h.block⟩
theorem Kept.cell {w w' : World} (h : Kept w w') {b o : Nat} {v : Value} (hc : w.cell? ⟨b, o, none⟩ = some v) : w'.cell? ⟨b, o, none⟩ = some v := by
 have hb : b < w.heap.size := by
  rcases Nat.lt_or_ge b w.heap.size with k | k
  ·exact k
  ·rw [World.cell?] at hc
   simp [Array.getElem?_eq_none k] at hc
 rw [← hc]
 exact World.cell?_of_block (w := w) (h.block b hb)
theorem Kept.frame {w w' : World} (h : Kept w w') (may : MemPlace → Prop) : w.keptBut w' may := by
 refine ⟨h.os, h.output, fun i hi => ?_⟩
 rw [h.block i hi]
 cases w.heap[i]? with
 | none => rfl
 | some o => cases o <;> first | exact ⟨rfl, rfl, rfl, fun _ _ => rfl⟩ | exact Or.inr ⟨rfl, rfl⟩ | rfl
end Go.Proofs.YtjdkegfckkbpeaaGreatDoor
namespace Go.Proofs.YtjdkegfckkbpeaaGreatDoor
open Go.RowKit
/-! ### Nothing but certain blocks has turned -/
structure Only (S : Nat → Prop) (w w' : World) : Prop where
 os : w'.os = w.os
 output : w'.output = w.output
 size : w.heap.size ≤ w'.heap.size
 block : ∀ k, k < w.heap.size → ¬ S k → w'.heap[k]? = w.heap[k]?
section
variable {S : Nat → Prop} {a w w' : World}
theorem Only.refl (S : Nat → Prop) (w : World) : Only S w w := ⟨rfl, rfl, Nat.le_refl _, fun _ _ _ => rfl⟩
theorem Only.trans (h : Only S a w) (k : Only S w w') : Only S a w' :=
 ⟨k.os.trans h.os, k.output.trans h.output, Nat.le_trans h.size k.size, fun i hi hs => (k.block i (Nat.lt_of_lt_of_le hi h.size) hs).trans (h.block i hi hs)⟩
theorem Only.mono {T : Nat → Prop} (h : Only S a w) (hs : ∀ k, k < a.heap.size → S k → T k) : Only T a w := ⟨h.os, h.output, h.size, fun k hk ht => h.block k hk fun s => ht (hs k hk s)⟩
theorem Only.of_kept (h : Kept w w') : Only S w w' := ⟨h.os, h.output, h.size, fun k hk _ => h.block k hk⟩
theorem Only.drew (h : Only S a w) : Only S a w.drew := ⟨h.os, h.output, h.size, h.block⟩
theorem Only.alloc (h : Only S a w) (o : Obj) : Only S a (w.alloc o) :=
 ⟨h.os, h.output, by have := h.size; simp; omega, fun k hk hs => (Below.heap_alloc w o k (Nat.lt_of_lt_of_le hk h.size)).trans (h.block k hk hs)⟩
theorem Only.setCell (h : Only S a w) {p : Addr} (hp : S p.block ∨ a.heap.size ≤ p.block) (u : Value) : Only S a (w.setCell p u) :=
 ⟨h.os, h.output, by simpa using h.size, fun k hk hs => (Below.heap_setCell w p u k (fun e => by subst e; exact hp.elim hs (fun h => by omega))).trans (h.block k hk hs)⟩
theorem Only.put {b : Nat} (h : Only (· = b) a w) (i : Nat) (u : Value) : Only (· = b) a (w.setCell ⟨b, i, none⟩ u) := h.setCell (.inl rfl) u
theorem Only.grown (h : Only S a w) {row : Option Nat} (hg : w.grownBy w' row) (hr : ∀ k, row = some k → S k ∨ a.heap.size ≤ k) : Only S a w' :=
 ⟨hg.os.trans h.os, hg.output.trans h.output, Nat.le_trans h.size hg.size, fun k hk hs => (hg.block k (Nat.lt_of_lt_of_le hk h.size) (fun e => (hr k e.symm).elim hs (fun h => by omega))).trans (h.block k hk hs)⟩
theorem Kept.only {n₀ : Nat} (h : Kept a w) (k : Only S w w') (hn : n₀ = a.heap.size) (hs : ∀ k, S k → n₀ ≤ k) : Kept a w' :=
 ⟨k.os.trans h.os, k.output.trans h.output, Nat.le_trans h.size k.size, fun i hi => (k.block i (Nat.lt_of_lt_of_le hi h.size) (fun s => by have := hs i s; omega)).trans (h.block i hi)⟩
theorem Kept.drew (h : Kept a w) : Kept a w.drew := ⟨h.os, h.output, h.size, h.block⟩
theorem Kept.alloc (h : Kept a w) (o : Obj) : Kept a (w.alloc o) :=
 ⟨h.os, h.output, by have := h.size; simp; omega, fun k hk => (Below.heap_alloc w o k (Nat.lt_of_lt_of_le hk h.size)).trans (h.block k hk)⟩
theorem Kept.setCell (h : Kept a w) {p : Addr} (hp : a.heap.size ≤ p.block) (u : Value) : Kept a (w.setCell p u) :=
 ⟨h.os, h.output, by simpa using h.size, fun k hk => (Below.heap_setCell w p u k (by omega)).trans (h.block k hk)⟩
/-- A block that is known whole. -/
def Blk (w : World) (g : Nat) (t : TypeId) (cs : Array Value) : Prop := w.heap[g]? = some (.cells cs t (0, 0))
theorem Blk.lt {g : Nat} {t : TypeId} {cs : Array Value} (h : Blk w g t cs) : g < w.heap.size := (Array.getElem?_eq_some_iff.1 h).1
theorem Blk.cell {g : Nat} {t : TypeId} {cs : Array Value} (h : Blk w g t cs) (i : Nat) : w.cell? ⟨g, i, none⟩ = cs[i]? := cell_of_row w g i cs t (0, 0) h
theorem Blk.frozen {g : Nat} {t : TypeId} {cs : Array Value} (h : Blk w g t cs) (i : Nat) : w.frozen? ⟨g, i, none⟩ = false := by
 unfold Blk at h
 simp [World.frozen?, h]
theorem Blk.new (w : World) (t : TypeId) (cs : Array Value) : Blk (w.alloc (.cells cs t)) w.heap.size t cs := heap_alloc_new w _
theorem Blk.only {g : Nat} {t : TypeId} {cs : Array Value} (h : Blk w g t cs) (k : Only S w w') (hs : ¬ S g) : Blk w' g t cs := (k.block g h.lt hs).trans h
theorem Blk.kept {g : Nat} {t : TypeId} {cs : Array Value} (h : Blk w g t cs) (k : Kept w w') : Blk w' g t cs := (k.block g h.lt).trans h
theorem Blk.alloc {g : Nat} {t : TypeId} {cs : Array Value} (h : Blk w g t cs) (o : Obj) : Blk (w.alloc o) g t cs := h.kept ((Kept.refl w).alloc o)
theorem Blk.drew {g : Nat} {t : TypeId} {cs : Array Value} (h : Blk w g t cs) : Blk w.drew g t cs := h
theorem Blk.put {g : Nat} {t : TypeId} {cs : Array Value} (h : Blk w g t cs) (i : Nat) (u : Value) : Blk (w.setCell ⟨g, i, none⟩ u) g t (cs.setIfInBounds i u) := by
 unfold Blk at h ⊢
 simp [World.setCell, Array.getElem?_modify, h]
end
theorem Kept.drewN {a w : World} (h : Kept a w) (n : Nat) : Kept a (w.drewN n) := ⟨h.os, h.output, h.size, h.block⟩
theorem Kept.grown {a w w' : World} (h : Kept a w) {row : Option Nat} (hg : w.grownBy w' row) (hr : ∀ k, row = some k → a.heap.size ≤ k) : Kept a w' :=
 ⟨hg.os.trans h.os, hg.output.trans h.output, Nat.le_trans h.size hg.size, fun k hk => (hg.block k (Nat.lt_of_lt_of_le hk h.size) (fun e => by have := hr k e.symm; omega)).trans (h.block k hk)⟩
end Go.Proofs.YtjdkegfckkbpeaaGreatDoor
namespace Go.Proofs.YtjdkegfckkbpeaaGreatDoor
open Go.ChangeShapes Go.WideShapes Go.ChangeAt Go.RowKit
/-- A list whose things lie one behind the other, k cells each. -/
def Row {α : Type} (k : Nat) (R : World → Nat → Nat → α → Prop) (w : World) (v : Value) (l : List α) : Prop :=
 ∃ a c, v = .slice a l.length c ∧ l.length ≤ c ∧ c ≤ maxLen ∧ ∀ i x, l[i]? = some x → ∃ b o, a = some ⟨b, o, none⟩ ∧ R w b (o + i * k) x
theorem Row.mono {α : Type} {k : Nat} {R : World → Nat → Nat → α → Prop} {w w' : World} {v : Value} {l : List α} (h : Row k R w v l) (hR : ∀ b o x, R w b o x → R w' b o x) : Row k R w' v l := by
 obtain ⟨a, c, e, h1, h2, h3⟩ := h
 exact ⟨a, c, e, h1, h2, fun i x hx => by obtain ⟨b, o, e, r⟩ := h3 i x hx; exact ⟨b, o, e, hR _ _ _ r⟩⟩
theorem Row.take {α : Type} {k : Nat} {R : World → Nat → Nat → α → Prop} {w : World} {a : Option Addr} {c : Nat} {l : List α} (h : Row k R w (.slice a l.length c) l) {i : Nat} (hi : i ≤ l.length) : Row k R w (.slice a i c) (l.take i) := by
 obtain ⟨a', c', e, h1, h2, h3⟩ := h
 injection e with e1 e2 e3
 subst e1 e3
 refine ⟨a, c, by simp [Nat.min_eq_left hi], by simp; omega, h2, fun j x hx => h3 j x ?_⟩
 rw [List.getElem?_take] at hx
 split at hx
 ·exact hx
 ·cases hx
theorem Row.nil {α : Type} {k : Nat} {R : World → Nat → Nat → α → Prop} {w : World} : Row k R w (.slice none 0 0) [] := ⟨none, 0, rfl, Nat.le_refl _, Nat.zero_le _, fun i x h => by simp at h⟩
end Go.Proofs.YtjdkegfckkbpeaaGreatDoor
namespace Go.Proofs.YtjdkegfckkbpeaaGreatDoor
open Go.RowKit Go.Shelf
attribute [local go_sem] Oper.semAt_some
/-- What the tables hold: the base types with their tags; which bytes are blanks. -/
def bcs : Array Value := (Wrd.bs.zipIdx.flatMap fun x => [Value.string x.1, Value.int .i64 (x.2 + 1)]).toArray
def spl : List Int := (List.range 256).map fun c => if Wrd.spB (UInt8.ofNat c) then 1 else 0
def spcs : Array Value := (spl.map fun z => Value.int .u8 z).toArray
/-- The tables are as the program's text lays them. -/
def Tb (w : World) : Prop := (∃ t fr, w.heap[7]? = some (.cells bcs t fr)) ∧ (∃ t fr, w.heap[5]? = some (.cells spcs t fr))
theorem Tb.same {w w' : World} (h : Tb w) (h0 : w'.heap[7]? = w.heap[7]?) (h1 : w'.heap[5]? = w.heap[5]?) : Tb w' := by
 obtain ⟨⟨t, fr, a⟩, ⟨u, gr, b⟩⟩ := h
 exact ⟨⟨t, fr, h0.trans a⟩, ⟨u, gr, h1.trans b⟩⟩
theorem Tb.kept {w w' : World} (h : Tb w) (k : Kept w w') : Tb w' := by
 have h' := h
 obtain ⟨⟨t, fr, a⟩, ⟨u, gr, b⟩⟩ := h'
 exact h.same (k.block _ (Array.getElem?_eq_some_iff.1 a).1) (k.block _ (Array.getElem?_eq_some_iff.1 b).1)
theorem Tb.lt {w : World} (h : Tb w) : 7 < w.heap.size ∧ 5 < w.heap.size := by
 obtain ⟨⟨t, fr, a⟩, ⟨u, gr, b⟩⟩ := h
 exact ⟨(Array.getElem?_eq_some_iff.1 a).1, (Array.getElem?_eq_some_iff.1 b).1⟩
theorem Tb.blank {w : World} (h : Tb w) (c : UInt8) : w.cell? ⟨5, c.toNat, none⟩ = some (.int .u8 (if Wrd.spB c then 1 else 0)) := by
 obtain ⟨_, ⟨u, gr, b⟩⟩ := h
 rw [cell_of_row w _ _ spcs u gr b]
 have hc := c.toNat_lt
 unfold spcs spl
 simp [List.getElem?_map, List.getElem?_range hc]
/-- Three blocks are as they were: the tables, and one more. -/
def Kp3 (Bn : Nat) (W W' : World) : Prop := W.heap.size ≤ W'.heap.size ∧ ∀ k, k = 7 ∨ k = 5 ∨ k = Bn → W'.heap[k]? = W.heap[k]?
theorem kp3_t {Bn : Nat} {A B C : World} (h : Kp3 Bn A B) (k : Kp3 Bn B C) : Kp3 Bn A C := ⟨Nat.le_trans h.1 k.1, fun i hi => (k.2 i hi).trans (h.2 i hi)⟩
theorem kp3_b {Bn : Nat} {w : World} (hT : Tb w) (hB : Bn < w.heap.size) (W : World) (l : Nat) (o o' : Obj) (hl : w.heap.size ≤ l) (h : W.heap[l]? = some o) (_ : o.isCells = false) (_ : o.isWalk = false) : Kp3 Bn W (W.putObj l o') := by
 have := hT.lt
 exact ⟨by simp [World.putObj], fun k hk => World.putObj_heap_other (by omega)⟩
/-- Where a field began. -/
def stV : Option Nat → Int
 | none => -1
 | some b => b
theorem yield_lt {s : ByteArray} {pre : List ByteArray} {x : ByteArray} (h : pre ++ [x] <+: Wrd.flds s) : pre.length < (Wrd.flds s).length := by
 have := h.length_le
 simp at this
 omega
theorem st_end {s : ByteArray} {k b : Nat} {pre : List ByteArray} (hk : k < s.size) (h : Wrd.st s k = (some b, pre)) (hc : Wrd.spB (s.data.toList.getD k 0) = true) : Wrd.st s (k + 1) = (none, pre ++ [s.extract b k]) := by
 conv => lhs; unfold Wrd.st
 rw [h]; dsimp only; rw [if_pos hc]
theorem st_goes {s : ByteArray} {k b : Nat} {pre : List ByteArray} (h : Wrd.st s k = (some b, pre)) (hc : Wrd.spB (s.data.toList.getD k 0) = false) : Wrd.st s (k + 1) = (some b, pre) := by
 conv => lhs; unfold Wrd.st
 rw [h]; dsimp only; rw [hc]; rfl
theorem st_none {s : ByteArray} {k : Nat} {pre : List ByteArray} (h : Wrd.st s k = (none, pre)) (hc : Wrd.spB (s.data.toList.getD k 0) = true) : Wrd.st s (k + 1) = (none, pre) := by
 conv => lhs; unfold Wrd.st
 rw [h]; dsimp only; rw [hc]; rfl
theorem st_opens {s : ByteArray} {k : Nat} {pre : List ByteArray} (h : Wrd.st s k = (none, pre)) (hc : Wrd.spB (s.data.toList.getD k 0) = false) : Wrd.st s (k + 1) = (some k, pre) := by
 conv => lhs; unfold Wrd.st
 rw [h]; dsimp only; rw [hc]; rfl
set_option maxRecDepth 100000 in
set_option maxHeartbeats 2000000 in
theorem fseq1_in (F : Fence) (n : Nat) (h6 : F.fn 231) (hro : F.round = none) (hn : 1 ≤ n) (l Bn : Nat) (s : ByteArray) (hs : s.size ≤ 9223372036854775807) (ha : ∀ c ∈ s.data.toList, c.toNat < 128) (J Jx : List ByteArray → World → Prop)
  (hY : ∀ pre (x : ByteArray) W, J pre W → pre.length < (Wrd.flds s).length → YieldAt F (n - 1) Tryz.prog l #[.string x] W fun e W' =>
   (e = .returned (.bool true) ∧ J (pre ++ [x]) W' ∧ Kp3 Bn W W') ∨ (e = .returned (.bool false) ∧ Jx (pre ++ [x]) W'))
  (W : World) (hT : Tb W) (hBn : W.cell? ⟨Bn, 0, none⟩ = some (.string s)) (h0 : J [] W) :
  CallsIn F n Tryz.prog 231 #[.func (.yield l) #[] #[], .pointer (some ⟨Bn, 0, none⟩)] W fun e W' => (∃ v, e = .returned v) ∧
   ((∃ ys : List ByteArray, ys = Wrd.flds s ∧ J ys W') ∨ (∃ pre : List ByteArray, pre <+: Wrd.flds s ∧ Jx pre W')) := by
 refine callsIn_of_wp Tryz.func231 rfl h6 ?_ hro
 simp only [Tryz.ntmps231, List.size_toArray, List.length_cons, List.length_nil, Nat.reduceAdd, Nat.reduceSub, Array.replicate_succ, Array.replicate_zero, List.push_toArray, List.append_toArray, List.nil_append, List.cons_append]
 gi_wp2
 gi_loopw [3, 4] (fun b i wr => ∃ (k : Nat) (ob : Option Nat) (pre : List ByteArray), k ≤ s.size ∧ i = .int .i64 k ∧ b = .int .i64 (stV ob) ∧ Wrd.st s k = (ob, pre) ∧ J pre wr ∧ Tb wr ∧ wr.cell? ⟨Bn, 0, none⟩ = some (.string s))
  (fun b i wr => s.size - (intOf i).toNat)
 case atStart =>
  exact ⟨0, none, [], by omega, rfl, rfl, rfl, h0, hT, hBn⟩
 case round =>
  obtain ⟨k, ob, pre, hk, rfl, rfl, hst, hJ, hT, hB⟩ := hrel
  clear h0 hBn
  by_cases hlt : k < s.size
  ·have hge : s.data.toList.getD k 0 = s[k] := by simp [List.getD, hlt]; rfl
   have hcell := hT.blank s[k]
   have hac : (s[k].toNat : Int) < 128 := by
    have := ha s[k] (by rw [← hge]; simp [List.getD, hlt])
    omega
   cases hsp : Wrd.spB s[k] with
   | true =>
    rw [hsp] at hcell
    rw [if_pos rfl] at hcell
    cases ob with
    | none =>
     have HS := Lib.hid (st_none hst (by rw [hge]; exact hsp))
     have HJ := Lib.hid hJ
     have HT := Lib.hid hT
     clear hst hJ hT hY ha hge hsp
     simp only [stV]
     gi_wp2
     go_roundw
     case rel => exact ⟨k + 1, none, pre, by omega, by go_num, rfl, HS.out, HJ.out, HT.out, hB⟩
     case measure => simp [intOf]; omega
    | some b =>
     have hbk := Wrd.st_lt s k b pre hst
     have hend := st_end hlt hst (by rw [hge]; exact hsp)
     have hpre : pre ++ [s.extract b k] <+: Wrd.flds s := by
      have := Wrd.st_flds s (k := k + 1) (by omega)
      rw [hend] at this; exact this
     obtain ⟨fn, tmps, assign, body, hy, hR⟩ := hY pre (s.extract b k) wr hJ (yield_lt hpre)
     have HS := Lib.hid hend
     have HP := Lib.hid hpre
     have HT := Lib.hid hT
     have HB := Lib.hid hB
     have hb0 : (0 : Int) ≤ (b : Int) := Int.natCast_nonneg b
     have hbk' : (b : Int) ≤ (k : Int) := by omega
     have hks : (k : Int) ≤ (s.size : Int) := by omega
     clear hst hJ hT hY ha hge hsp hend hpre
     simp only [stV]
     gi_wp2
     refine hR.mono ?_
     rintro e W3 (⟨rfl, hJ3, hk3⟩ | ⟨rfl, hJx3⟩)
     ·have hT3 := HT.out.same (hk3.2 _ (.inl rfl)) (hk3.2 _ (.inr (.inl rfl)))
      have hB3 : W3.cell? ⟨Bn, 0, none⟩ = some (.string s) := (World.cell?_of_block (w := wr) (hk3.2 Bn (.inr (.inr rfl)))).trans HB.out
      have HJ := Lib.hid hJ3
      have HT3 := Lib.hid hT3
      clear hJ3 hT3 hk3
      gi_wp2
      go_roundw
      case rel => exact ⟨k + 1, none, _, by omega, by go_num, rfl, HS.out, HJ.out, HT3.out, hB3⟩
      case measure => simp [intOf]; omega
     ·gi_wp2
      refine bodyPost_ret (results_none rfl _ _ _) rfl ?_
      exact ⟨⟨_, rfl⟩, .inr ⟨_, HP.out, hJx3⟩⟩
   | false =>
    rw [hsp] at hcell
    rw [if_neg (by decide)] at hcell
    cases ob with
    | none =>
     have HS := Lib.hid (st_opens hst (by rw [hge]; exact hsp))
     have HJ := Lib.hid hJ
     have HT := Lib.hid hT
     clear hst hJ hT hY ha hge hsp
     simp only [stV]
     gi_wp2
     go_roundw
     case rel => exact ⟨k + 1, some k, pre, by omega, by go_num, rfl, HS.out, HJ.out, HT.out, hB⟩
     case measure => simp [intOf]; omega
    | some b =>
     have HS := Lib.hid (st_goes hst (by rw [hge]; exact hsp))
     have HJ := Lib.hid hJ
     have HT := Lib.hid hT
     have hb0 : (0 : Int) ≤ (b : Int) := Int.natCast_nonneg b
     clear hst hJ hT hY ha hge hsp
     simp only [stV]
     gi_wp2
     go_roundw
     case rel => exact ⟨k + 1, some b, pre, by omega, by go_num, rfl, HS.out, HJ.out, HT.out, hB⟩
     case measure => simp [intOf]; omega
  ·obtain rfl : k = s.size := by omega
   clear hlt
   cases ob with
   | none =>
    have HS := Lib.hid (show pre = Wrd.flds s by unfold Wrd.flds; rw [hst])
    have HJ := Lib.hid hJ
    clear hst hJ hY ha hT
    simp only [stV]
    gi_wp2
    refine bodyPost_end (results_none rfl _ _ _) rfl ?_
    exact ⟨⟨_, rfl⟩, .inl ⟨_, HS.out, HJ.out⟩⟩
   | some b =>
    have hbk := Wrd.st_lt s _ b pre hst
    have hfl : pre ++ [s.extract b s.size] = Wrd.flds s := by unfold Wrd.flds; rw [hst]
    obtain ⟨fn, tmps, assign, body, hy, hR⟩ := hY pre (s.extract b s.size) wr hJ (yield_lt (by rw [hfl]; exact List.prefix_refl _))
    have HS := Lib.hid hfl
    have hb0 : (0 : Int) ≤ (b : Int) := Int.natCast_nonneg b
    have hbk' : (b : Int) ≤ (s.size : Int) := by omega
    clear hst hJ hT hY ha hfl
    simp only [stV]
    gi_wp2
    refine hR.mono ?_
    rintro e W3 (⟨rfl, hJ3, hk3⟩ | ⟨rfl, hJx3⟩)
    ·gi_wp2
     refine bodyPost_end (results_none rfl _ _ _) rfl ?_
     exact ⟨⟨_, rfl⟩, .inl ⟨_, HS.out, hJ3⟩⟩
    ·gi_wp2
     refine bodyPost_end (results_none rfl _ _ _) rfl ?_
     exact ⟨⟨_, rfl⟩, .inr ⟨_, by rw [HS.out]; exact List.prefix_refl _, hJx3⟩⟩
theorem fseq_in (F : Fence) (n : Nat) (h5 : F.fn 216) (hro : F.round = none) (s : ByteArray) (w : World) :
  CallsIn F n Tryz.prog 216 #[.string s] w fun e w' => e = .returned (.func (.func 231) #[] #[.pointer (some ⟨w.heap.size, 0, none⟩)]) ∧ w' = w.alloc (.cells #[.string s] 9) := by
 refine callsIn_of_wp Tryz.func216 rfl h5 ?_ hro
 simp only [Tryz.ntmps216, List.size_toArray, List.length_cons, List.length_nil, Nat.reduceAdd, Nat.reduceSub, Array.replicate_succ, Array.replicate_zero, List.push_toArray, List.append_toArray, List.nil_append, List.cons_append]
 gi_wp2
 go_ret
 exact ⟨rfl, rfl⟩
theorem fseq_stops (F : Fence) (n : Nat) (h6 : F.fn 231) (hro : F.round = none) (hn : 1 ≤ n) (Bn : Nat) (s : ByteArray) (hs : s.size ≤ 9223372036854775807) (ha : ∀ c ∈ s.data.toList, c.toNat < 128) (w : World) (hT : Tb w) (hBn : Bn < w.heap.size)
  (hc : w.cell? ⟨Bn, 0, none⟩ = some (.string s)) :
  SeqStopsK F n Tryz.prog 231 #[.pointer (some ⟨Bn, 0, none⟩)] (fun x : ByteArray => #[Value.string x]) (Kp3 Bn) (fun ys => ys = Wrd.flds s) (fun pre => pre <+: Wrd.flds s) (Wrd.flds s).length w := fun l J Jx W hW _ _ hY h0 =>
 fseq1_in F n h6 hro hn l Bn s hs ha J Jx hY W (hT.kept (Kept.of_below hW)) ((hW.cell (p := ⟨Bn, 0, none⟩) hBn).trans hc) h0
end Go.Proofs.YtjdkegfckkbpeaaGreatDoor
namespace Go.Proofs.YtjdkegfckkbpeaaGreatDoor
open Go.ChangeShapes Go.WideShapes Go.ChangeAt Go.RowKit Go.Shelf
attribute [local go_sem] Oper.semAt_some
/-- Within the loop: the texts so far are other ones. -/
def KeyI (w : World) (s : ByteArray) (pre : List ByteArray) (W : World) : Prop :=
 Blk W w.heap.size 9 #[.string s] ∧ Blk W (w.heap.size + 1) 4 #[.bool false] ∧ Below w.heap.size w W ∧ s ∉ pre
/-- It was found. -/
def KeyX (w : World) (s : ByteArray) (c : Code) (pre : List ByteArray) (W : World) : Prop :=
 c = .ret ∧ Blk W (w.heap.size + 1) 4 #[.bool true] ∧ Below w.heap.size w W ∧ s ∈ pre
theorem Blk.grown {W W' : World} {g : Nat} {t : TypeId} {cs : Array Value} {row : Option Nat} (h : Blk W g t cs) (hg : W.grownBy W' row) (hr : ∀ r, row = some r → ∃ o : Obj, W.heap[r]? = some o ∧ o.isCells = false) : Blk W' g t cs := by
 refine (hg.block g h.lt fun e => ?_).trans h
 obtain ⟨o, ho, hc⟩ := hr g e.symm
 unfold Blk at h
 rw [h] at ho; cases ho; cases hc
theorem keyI_from (w : World) (s : ByteArray) (B : Nat) (hB : w.heap.size ≤ B) : OwnFrom B (KeyI w s) := by
 rintro pre X Y row ⟨h1, h2, h3, h4⟩ hg hr
 exact ⟨h1.grown hg fun r e => (hr r e).2, h2.grown hg fun r e => (hr r e).2, h3.grown hg h3.size (fun k e => Nat.le_trans hB (hr k e).1), h4⟩
theorem keyX_from (w : World) (s : ByteArray) (c : Code) (B : Nat) (hB : w.heap.size ≤ B) : OwnFrom B (KeyX w s c) := by
 rintro pre X Y row ⟨h0, h2, h3, h4⟩ hg hr
 exact ⟨h0, h2.grown hg fun r e => (hr r e).2, h3.grown hg h3.size (fun k e => Nat.le_trans hB (hr k e).1), h4⟩
/-- Texts compared, as the walk spells it. -/
theorem beq_no {x s : ByteArray} (h : ¬ x = s) : (x.toList == s.toList) = false := by
 cases e : x.toList == s.toList with
 | false => rfl
 | true =>
  have e' := eq_of_beq e
  rw [ByteArray.toList_eq, ByteArray.toList_eq] at e'
  exact absurd (ByteArray.ext (Array.toList_inj.1 e')) h
set_option maxRecDepth 100000 in
set_option maxHeartbeats 2000000 in
theorem key_b (s : ByteArray) (w : World) (hT : Tb w) :
  Calls Tryz.prog 201 #[.string s] w fun e w' => e = .returned (.bool (Wrd.key s)) ∧ Below w.heap.size w w' := by
 refine (callsIn_wide (n := 3)).1 (callsIn_of_wp_marks Tryz.func201 rfl trivial (wpIn_wide.2 ?_) rfl)
 simp only [Tryz.ntmps201, List.size_toArray, List.length_cons, List.length_nil, Nat.reduceAdd, Nat.reduceSub, Array.replicate_succ, Array.replicate_zero, List.push_toArray, List.append_toArray, List.nil_append, List.cons_append]
 go_wp2_with fail
 refine ((callsIn_wide (n := 1)).1 (fseq_in Fence.wide 1 trivial rfl Wrd.rs _)).mono ?_
 rintro e w' ⟨rfl, rfl⟩
 go_wp2_with fail
 have hK0 : Kept w (((w.alloc (.cells #[.string s] 9)).alloc (.cells #[.bool false] 4)).alloc (.cells #[.string Wrd.rs] 9)) := (((Kept.refl w).alloc _).alloc _).alloc _
 have hB0 : Below w.heap.size w (((w.alloc (.cells #[.string s] 9)).alloc (.cells #[.bool false] 4)).alloc (.cells #[.string Wrd.rs] 9)) := (((Below.refl _ w).alloc (Nat.le_refl _) _).alloc (by simp) _).alloc (by simp; omega) _
 have b1 := ((Blk.new w 9 #[.string s]).alloc (.cells #[.bool false] 4)).alloc (.cells #[.string Wrd.rs] 9)
 have b2 := (Blk.new (w.alloc (.cells #[.string s] 9)) 4 #[.bool false]).alloc (.cells #[.string Wrd.rs] 9)
 have b3 := Blk.new ((w.alloc (.cells #[.string s] 9)).alloc (.cells #[.bool false] 4)) 9 #[.string Wrd.rs]
 simp only [World.size_alloc] at b2 b3
 have hT0 := hT.kept hK0
 have hlt := hT.lt
 refine wpIn_wide.1 (wpIn_rangeFunc_ownG (F := Fence.wide) (n := 3) rfl (by omega) (gf := 231) (lb := #[.pointer (some ⟨w.heap.size + 1 + 1, 0, none⟩)]) rfl trivial (enters_of Tryz.func231 (by kernel_rfl) rfl)
  (fseq_stops Fence.wide (3 - 1) trivial rfl (by omega) (w.heap.size + 1 + 1) Wrd.rs Wrd.size_rs Wrd.ascii_rs _ hT0 (by simp) (b3.cell 0)) kp3_t (kp3_b hT0 (by simp)) (Below.refl _ _) (fun _ => rfl)
  (KeyI w s) (KeyX w s) (keyI_from w s _ (by simp; omega)) (fun c => keyX_from w s c _ (by simp; omega))
  ⟨b1, b2, hB0, by simp⟩
  (fun x => { tmps := #[.string s, .pointer (some ⟨w.heap.size, 0, none⟩), .pointer (some ⟨w.heap.size + 1, 0, none⟩), .string x, .func (.func 231) #[] #[.pointer (some ⟨w.heap.size + 1 + 1, 0, none⟩)], .string x, undef, undef, undef], defers := [] }) ?assign ?body ?done ?stop)
 case assign =>
  intro l x W K hK
  gi_wp2
  exact hK
 case body =>
  rintro l pre x W ⟨h1, h2, h3, h4⟩ hlt'
  have c1 := h1.cell 0
  have c2 := h2.cell 0
  have f2 := h2.frozen 0
  simp at c1 c2
  by_cases hx : x = s
  ·subst hx
   have HX := Lib.hid (show KeyX w x .ret (pre ++ [x]) (W.setCell ⟨w.heap.size + 1, 0, none⟩ (.bool true)) from
    ⟨rfl, h2.put 0 _, h3.setCell (by simp) _, by simp⟩)
   clear h1 h2 h3 h4 hT hT0 hK0 hB0 b1 b2 b3
   gi_wp2
   exact ⟨(KeepsOthers.setCell _ _ _).from _, HX.out⟩
  ·have HI := Lib.hid (show KeyI w s (pre ++ [x]) W from ⟨h1, h2, h3, by simp [h4]; exact fun e => hx e.symm⟩)
   clear h1 h2 h3 h4 hT hT0 hK0 hB0 b1 b2 b3
   have hne := beq_no hx
   clear hx
   gi_wp2
   exact ⟨KeepsFrom.refl _ _, ⟨Nat.le_refl _, fun _ _ => rfl⟩, HI.out⟩
 case done =>
  rintro D ys W hD hys ⟨h1, h2, h3, h4⟩ hK
  subst hys
  rw [Wrd.flds_rs] at h4
  have hkey : Wrd.key s = false := Wrd.has_no h4
  have c2 := h2.cell 0
  have f2 := h2.frozen 0
  simp at c2
  go_wp2
  have hK2 : (W.setCell ⟨w.heap.size + 1, 0, none⟩ (.bool false)).heap[D]? = some (.deferred (some [])) := (Below.heap_setCell W _ _ D (by simp at hD; simp; omega)).trans hK
  have h2' := h2.put 0 (.bool false)
  have h3' : Below w.heap.size w (W.setCell ⟨w.heap.size + 1, 0, none⟩ (.bool false)) := h3.setCell (by simp) _
  refine ⟨by simp, .inl ⟨_, _, rfl, run_takeDeferred hK2, ?_⟩⟩
  have c3 := (h2'.grown (grownBy_putObj' _ D (.deferred none)) (fun r e => by cases e; exact ⟨_, hK2, rfl⟩)).cell 0
  simp at c3
  exact ⟨_, by simp [results, Tryz.results201, go_sem, c3]; rfl, by rw [hkey], h3'.trans (belowK_b (w := w) (Nat.le_refl _) _ D _ _ (by simp at hD; omega) hK2 rfl rfl)⟩
 case stop =>
  rintro D c pre W hD hpre ⟨rfl, h2, h3, h4⟩ hK
  have hkey : Wrd.key s = true := Wrd.has_iff.2 (by rw [← Wrd.flds_rs]; exact hpre.subset h4)
  have c3 := (h2.grown (grownBy_putObj' _ D (.deferred none)) (fun r e => by cases e; exact ⟨_, hK, rfl⟩)).cell 0
  simp at c3
  gi_wp2
  refine ⟨by simp, .inl ⟨_, _, rfl, run_takeDeferred hK, ?_⟩⟩
  exact ⟨_, by simp [results, Tryz.results201, go_sem, c3]; rfl, by rw [hkey], h3.trans (belowK_b (w := w) (Nat.le_refl _) _ D _ _ (by simp at hD; omega) hK rfl rfl)⟩
theorem key_c (s : ByteArray) (w : World) (hT : Tb w) :
  Calls Tryz.prog 201 #[.string s] w fun e w' => e = .returned (.bool (Wrd.key s)) ∧ Kept w w' :=
 (key_b s w hT).mono fun _ _ ⟨h, k⟩ => ⟨h, Kept.of_below k⟩
end Go.Proofs.YtjdkegfckkbpeaaGreatDoor
namespace Go.Proofs.YtjdkegfckkbpeaaGreatDoor
open Go.ChangeShapes Go.WideShapes Go.ChangeAt Go.RowKit
def VarAt (w : World) (b o : Nat) (x : Tab.V) : Prop :=
 w.cell? ⟨b, o, none⟩ = some (.string x.name) ∧ w.cell? ⟨b, o + 1, none⟩ = some (.string x.typ) ∧ x.name.size ≤ maxLen ∧ x.typ.size ≤ maxLen
def SigAt (w : World) (b o : Nat) (x : Tab.M) : Prop :=
 w.cell? ⟨b, o, none⟩ = some (.string x.name) ∧ (∃ v, w.cell? ⟨b, o + 1, none⟩ = some v ∧ Row 2 VarAt w v x.params) ∧ w.cell? ⟨b, o + 2, none⟩ = some (.string x.res) ∧ x.name.size ≤ maxLen ∧ x.res.size ≤ maxLen
def ClsAt (w : World) (b o : Nat) (x : Tab.C) : Prop :=
 w.cell? ⟨b, o, none⟩ = some (.string x.name) ∧ w.cell? ⟨b, o + 1, none⟩ = some (.string x.super) ∧ (∃ v, w.cell? ⟨b, o + 2, none⟩ = some v ∧ Row 2 VarAt w v x.fields) ∧ (∃ v, w.cell? ⟨b, o + 3, none⟩ = some v ∧ Row 3 SigAt w v x.methods) ∧ x.name.size ≤ maxLen ∧ x.super.size ≤ maxLen
abbrev TabAt (w : World) (v : Value) (t : List Tab.C) : Prop := Row 4 ClsAt w v t
theorem VarAt.kept {w w' : World} {b o : Nat} {x : Tab.V} (h : VarAt w b o x) (k : Kept w w') : VarAt w' b o x := ⟨k.cell h.1, k.cell h.2.1, h.2.2⟩
theorem vars_kept {w w' : World} {v : Value} {l : List Tab.V} (h : Row 2 VarAt w v l) (k : Kept w w') : Row 2 VarAt w' v l := h.mono fun _ _ _ r => r.kept k
theorem SigAt.kept {w w' : World} {b o : Nat} {x : Tab.M} (h : SigAt w b o x) (k : Kept w w') : SigAt w' b o x := by
 obtain ⟨h1, ⟨v, h2, h3⟩, h4, h5⟩ := h
 exact ⟨k.cell h1, ⟨v, k.cell h2, vars_kept h3 k⟩, k.cell h4, h5⟩
theorem sigs_kept {w w' : World} {v : Value} {l : List Tab.M} (h : Row 3 SigAt w v l) (k : Kept w w') : Row 3 SigAt w' v l := h.mono fun _ _ _ r => r.kept k
theorem ClsAt.kept {w w' : World} {b o : Nat} {x : Tab.C} (h : ClsAt w b o x) (k : Kept w w') : ClsAt w' b o x := by
 obtain ⟨h1, h2, ⟨v, h3, h4⟩, ⟨u, h5, h6⟩, h7⟩ := h
 exact ⟨k.cell h1, k.cell h2, ⟨v, k.cell h3, vars_kept h4 k⟩, ⟨u, k.cell h5, sigs_kept h6 k⟩, h7⟩
theorem tab_kept {w w' : World} {v : Value} {l : List Tab.C} (h : TabAt w v l) (k : Kept w w') : TabAt w' v l := h.mono fun _ _ _ r => r.kept k
theorem beq_yes {x s : ByteArray} (h : x = s) : (x.toList == s.toList) = true := by rw [h]; exact beq_self_eq_true _
theorem nmC_c (b o : Nat) (x : Tab.C) (w : World) (h : ClsAt w b o x) :
  Calls Tryz.prog 130 #[.pointer (some ⟨b, o, none⟩)] w fun e w' => e = .returned (.string x.name) ∧ w' = w := by
 obtain ⟨h1, h2, _⟩ := h
 go_enter Tryz.func130, Tryz.ntmps130
 go_wp2
 go_ret
 exact ⟨rfl, rfl⟩
theorem nmV_c (b o : Nat) (x : Tab.V) (w : World) (h : VarAt w b o x) :
  Calls Tryz.prog 204 #[.pointer (some ⟨b, o, none⟩)] w fun e w' => e = .returned (.string x.name) ∧ w' = w := by
 obtain ⟨h1, h2, _⟩ := h
 go_enter Tryz.func204, Tryz.ntmps204
 go_wp2
 go_ret
 exact ⟨rfl, rfl⟩
/-- What a search answers. -/
def FindPost {α : Type} (nm : α → ByteArray) (l : List α) (s : ByteArray) (w : World) (e : Ending) (w' : World) : Prop :=
 e = .returned (.tuple #[.int .i64 (Tab.num (Tab.ix nm l s)), .bool (Tab.ix nm l s).isSome]) ∧ w' = w
theorem take_not {α : Type} {nm : α → ByteArray} {l : List α} {s : ByteArray} {k : Nat} {x : α} (h : ∀ y ∈ l.take k, ¬ nm y = s) (hx : l[k]? = some x) (hn : ¬ nm x = s) : ∀ y ∈ l.take (k + 1), ¬ nm y = s := by
 intro y hy
 rw [List.take_add_one, hx] at hy
 rcases List.mem_append.1 hy with h1 | h1
 ·exact h y h1
 ·simp at h1; rw [h1]; exact hn
set_option maxHeartbeats 2000000 in
theorem findC_c (l : List Tab.C) (v : Value) (s : ByteArray) (w : World) (h : Row 4 ClsAt w v l) :
  Calls Tryz.prog 129 #[v, .string s, .func (.func 130) #[] #[]] w (FindPost Tab.C.name l s w) := by
 obtain ⟨a, c, rfl, hlc, hcm, hat⟩ := h
 unfold maxLen at hcm
 go_enter Tryz.func129, Tryz.ntmps129
 go_wp2
 go_loopw [11] (fun i wr => ∃ k : Nat, k ≤ l.length ∧ i = .int .i64 k ∧ wr = w ∧ ∀ y ∈ l.take k, ¬ y.name = s) (fun i wr => l.length - (intOf i).toNat)
 case atStart => exact ⟨0, by omega, rfl, by first | trivial | rfl, by simp⟩
 case round =>
  obtain ⟨k, hk, rfl, rfl, hno⟩ := hrel
  by_cases hlt : k < l.length
  ·have hx : l[k]? = some l[k] := List.getElem?_eq_getElem hlt
   obtain ⟨b, o, rfl, hr⟩ := hat k _ hx
   generalize l[k] = x at hx hr
   have hltI : (k : Int) < (l.length : Int) := by omega
   have HC := Lib.hid (nmC_c b _ x _ hr)
   by_cases hn : x.name = s
   ·have HF := Lib.hid (Tab.ix_some hx hn hno)
    have hb := beq_yes hn
    clear hn hno hx hat hr
    go_wp2_with fail
    refine HC.out.mono ?_
    rintro e w1 ⟨rfl, rfl⟩
    go_wp2_with fail
    go_ret2
    exact ⟨by rw [HF.out]; rfl, rfl⟩
   ·have HF := Lib.hid (take_not hno hx hn)
    have hb := beq_no hn
    clear hn hno hx hat hr
    go_wp2_with fail
    refine HC.out.mono ?_
    rintro e w1 ⟨rfl, rfl⟩
    go_wp2_with fail
    go_roundw
    case rel => exact ⟨k + 1, by omega, by go_num, by first | trivial | rfl, HF.out⟩
    case measure => simp [intOf]; omega
  ·have hltI : ¬ (k : Int) < (l.length : Int) := by omega
   have hkl : k = l.length := by omega
   have HF := Lib.hid (Tab.ix_none (l := l) (by simpa [hkl] using hno))
   clear hno hat
   go_wp2_with fail
   go_ret2
   exact ⟨by rw [HF.out]; rfl, rfl⟩
set_option maxHeartbeats 2000000 in
theorem findV_c (l : List Tab.V) (v : Value) (s : ByteArray) (w : World) (h : Row 2 VarAt w v l) :
  Calls Tryz.prog 203 #[v, .string s, .func (.func 204) #[] #[]] w (FindPost Tab.V.name l s w) := by
 obtain ⟨a, c, rfl, hlc, hcm, hat⟩ := h
 unfold maxLen at hcm
 go_enter Tryz.func203, Tryz.ntmps203
 go_wp2
 go_loopw [11] (fun i wr => ∃ k : Nat, k ≤ l.length ∧ i = .int .i64 k ∧ wr = w ∧ ∀ y ∈ l.take k, ¬ y.name = s) (fun i wr => l.length - (intOf i).toNat)
 case atStart => exact ⟨0, by omega, rfl, by first | trivial | rfl, by simp⟩
 case round =>
  obtain ⟨k, hk, rfl, rfl, hno⟩ := hrel
  by_cases hlt : k < l.length
  ·have hx : l[k]? = some l[k] := List.getElem?_eq_getElem hlt
   obtain ⟨b, o, rfl, hr⟩ := hat k _ hx
   generalize l[k] = x at hx hr
   have hltI : (k : Int) < (l.length : Int) := by omega
   have HC := Lib.hid (nmV_c b _ x _ hr)
   by_cases hn : x.name = s
   ·have HF := Lib.hid (Tab.ix_some hx hn hno)
    have hb := beq_yes hn
    clear hn hno hx hat hr
    go_wp2_with fail
    refine HC.out.mono ?_
    rintro e w1 ⟨rfl, rfl⟩
    go_wp2_with fail
    go_ret2
    exact ⟨by rw [HF.out]; rfl, rfl⟩
   ·have HF := Lib.hid (take_not hno hx hn)
    have hb := beq_no hn
    clear hn hno hx hat hr
    go_wp2_with fail
    refine HC.out.mono ?_
    rintro e w1 ⟨rfl, rfl⟩
    go_wp2_with fail
    go_roundw
    case rel => exact ⟨k + 1, by omega, by go_num, by first | trivial | rfl, HF.out⟩
    case measure => simp [intOf]; omega
  ·have hltI : ¬ (k : Int) < (l.length : Int) := by omega
   have hkl : k = l.length := by omega
   have HF := Lib.hid (Tab.ix_none (l := l) (by simpa [hkl] using hno))
   clear hno hat
   go_wp2_with fail
   go_ret2
   exact ⟨by rw [HF.out]; rfl, rfl⟩
theorem tfind_c (l : List Tab.C) (v : Value) (s : ByteArray) (w : World) (h : Row 4 ClsAt w v l) :
  Calls Tryz.prog 92 #[v, .string s] w (FindPost Tab.C.name l s w) := by
 have HC := Lib.hid (findC_c l v s w h)
 unfold FindPost at HC ⊢
 generalize Tab.num (Tab.ix Tab.C.name l s) = n at HC ⊢
 generalize (Tab.ix Tab.C.name l s).isSome = y at HC ⊢
 obtain ⟨a, c, rfl, _⟩ := h
 go_enter Tryz.func92, Tryz.ntmps92
 go_wp2_with fail
 refine HC.out.mono ?_
 rintro e w1 ⟨rfl, rfl⟩
 go_wp2_with fail
 go_ret2
 exact ⟨rfl, rfl⟩
theorem tfindVar_c (l : List Tab.V) (v : Value) (s : ByteArray) (w : World) (h : Row 2 VarAt w v l) :
  Calls Tryz.prog 167 #[v, .string s] w (FindPost Tab.V.name l s w) := by
 have HC := Lib.hid (findV_c l v s w h)
 unfold FindPost at HC ⊢
 generalize Tab.num (Tab.ix Tab.V.name l s) = n at HC ⊢
 generalize (Tab.ix Tab.V.name l s).isSome = y at HC ⊢
 obtain ⟨a, c, rfl, _⟩ := h
 go_enter Tryz.func167, Tryz.ntmps167
 go_wp2_with fail
 refine HC.out.mono ?_
 rintro e w1 ⟨rfl, rfl⟩
 go_wp2_with fail
 go_ret2
 exact ⟨rfl, rfl⟩
end Go.Proofs.YtjdkegfckkbpeaaGreatDoor
namespace Go.Proofs.YtjdkegfckkbpeaaGreatDoor.Tab
/-- A member: its types are those of its parameters, and then its own, or its result's. -/
structure Mb (α : Type) where
 name : ByteArray
 ar : Int
 types : List α
instance {α : Type} : Inhabited (Mb α) := ⟨⟨⟨#[]⟩, 0, []⟩⟩
def Mb.map {α β : Type} (f : α → β) (m : Mb α) : Mb β := ⟨m.name, m.ar, m.types.map f⟩
def mbF (f : V) : Mb ByteArray := ⟨f.name, -1, [f.typ]⟩
def mbM (m : M) : Mb ByteArray := ⟨m.name, m.params.length, m.params.map (·.typ) ++ [m.res]⟩
def mbs (t : List C) (c : ByteArray) : List (Mb ByteArray) := (fields t c).map mbF ++ (methods t c).map mbM
/-- In which direction the type at a place of a member goes. -/
def fwd (ar : Int) (i : Nat) : Bool := decide (ar < 0) || !decide ((i : Int) < ar)
def bwd (ar : Int) (i : Nat) : Bool := decide (ar < 0) || decide ((i : Int) < ar)
def okP {α : Type} (R : α → α → Bool) (ar : Int) (i : Nat) (a b : α) : Bool := (!fwd ar i || R a b) && (!bwd ar i || R b a)
def okAt {α : Type} (R : α → α → Bool) (ar : Int) : Nat → List α → List α → Bool
 | i, a :: l, b :: u => okP R ar i a b && okAt R ar (i + 1) l u
 | _, _, _ => true
def okM {α : Type} (R : α → α → Bool) (x m : Mb α) : Bool := okAt R m.ar 0 x.types m.types
def alike {α : Type} (x m : Mb α) : Bool := decide (x.name = m.name) && decide (x.ar = m.ar)
def hasB {α : Type} (l u : List (Mb α)) : Bool := u.all fun m => l.any fun x => alike x m
def holds {α : Type} (R : α → α → Bool) (l u : List (Mb α)) : Bool := u.all fun m => l.any fun x => alike x m && okM R x m
/-- The numbers of types. -/
def numOf (t : List C) (s : ByteArray) : Int := match at' t s with
 | some k => k
 | none => if s = ⟨#[63]⟩ then -1 else if s = ⟨#[105, 110, 116]⟩ then -2 else if s = ⟨#[114, 101, 97, 108]⟩ then -3 else if s = ⟨#[98, 111, 111, 108]⟩ then -4 else if s = ⟨#[115, 116, 114]⟩ then -5 else if s = ⟨#[117, 110, 105, 116]⟩ then -6 else 0
def goesN (L : Nat → Nat → Bool) (a b : Int) : Bool := decide (a = b) || decide (a = -1) || decide (b = -1) || (decide (0 ≤ a) && decide (0 ≤ b) && L a.toNat b.toNat)
/-- The members of all classes, by numbers of types. -/
def shp (t : List C) (c : ByteArray) : List (Mb Int) := (mbs t c).map (Mb.map (numOf t))
def shps (t : List C) : List (List (Mb Int)) := t.map fun c => shp t c.name
/-- All pairs of places. -/
def sqr (n : Nat) : List (Nat × Nat) := (List.range n).flatMap fun i => (List.range n).map fun k => (i, k)
theorem mem_sqr {n : Nat} {p : Nat × Nat} : p ∈ sqr n ↔ p.1 < n ∧ p.2 < n := by
 obtain ⟨i, k⟩ := p
 unfold sqr
 rw [List.mem_flatMap]
 constructor
 ·rintro ⟨a, ha, h⟩
  obtain ⟨b, hb, e⟩ := List.mem_map.1 h
  injection e with e1 e2
  subst e1 e2
  exact ⟨List.mem_range.1 ha, List.mem_range.1 hb⟩
 ·rintro ⟨h1, h2⟩
  exact ⟨i, List.mem_range.2 h1, List.mem_map.2 ⟨k, List.mem_range.2 h2, rfl⟩⟩
theorem sqr_length (n : Nat) : (sqr n).length = n * n := by
 unfold sqr
 rw [List.length_flatMap]
 simp [List.map_const']
def inL (L : List (Nat × Nat)) (i k : Nat) : Bool := decide ((i, k) ∈ L)
def shN (S : List (List (Mb Int))) (i : Nat) : List (Mb Int) := S.getD i []
def strikeL (S : List (List (Mb Int))) (L : List (Nat × Nat)) : List (Nat × Nat) := L.filter fun p => holds (goesN (inL L)) (shN S p.1) (shN S p.2)
def strikes (S : List (List (Mb Int))) : Nat → List (Nat × Nat) → List (Nat × Nat)
 | 0, L => L
 | n + 1, L => strikes S n (strikeL S L)
def start (S : List (List (Mb Int))) : List (Nat × Nat) := (sqr S.length).filter fun p => hasB (shN S p.1) (shN S p.2)
/-- The greatest relation. -/
def gfp (S : List (List (Mb Int))) : List (Nat × Nat) := strikes S (S.length * S.length) (start S)
/-- P7.1, P7.2 -/
def has (t : List C) (s u : ByteArray) : Bool := isC t s && isC t u && ok t && hasB (shp t s) (shp t u)
def goes (t : List C) (s u : ByteArray) : Bool :=
 if s = ⟨#[63]⟩ then ats t u u else if u = ⟨#[63]⟩ then ats t s s else sub t s u || (has t s u && goesN (inL (gfp (shps t))) (numOf t s) (numOf t u))
/-- What is closed in itself. -/
def Closed (S : List (List (Mb Int))) (F : Nat → Nat → Bool) : Prop := ∀ i k, F i k = true → i < S.length ∧ k < S.length ∧ hasB (shN S i) (shN S k) = true ∧ holds (goesN F) (shN S i) (shN S k) = true
theorem goesN_mono {F G : Nat → Nat → Bool} (h : ∀ i k, F i k = true → G i k = true) {a b : Int} (hg : goesN F a b = true) : goesN G a b = true := by
 unfold goesN at hg ⊢
 simp only [Bool.or_eq_true, Bool.and_eq_true] at hg ⊢
 rcases hg with hg | hg
 ·exact .inl hg
 ·exact .inr ⟨hg.1, h _ _ hg.2⟩
theorem okP_mono {α : Type} {R Q : α → α → Bool} (h : ∀ a b, R a b = true → Q a b = true) {ar : Int} {i : Nat} {a b : α} (hg : okP R ar i a b = true) : okP Q ar i a b = true := by
 unfold okP at hg ⊢
 simp only [Bool.or_eq_true, Bool.and_eq_true] at hg ⊢
 exact ⟨hg.1.imp_right (h _ _), hg.2.imp_right (h _ _)⟩
theorem okAt_mono {α : Type} {R Q : α → α → Bool} (h : ∀ a b, R a b = true → Q a b = true) {ar : Int} : ∀ {i : Nat} {l u : List α}, okAt R ar i l u = true → okAt Q ar i l u = true
 | i, [], u, _ => by unfold okAt; rfl
 | i, a :: l, [], _ => by unfold okAt; rfl
 | i, a :: l, b :: u, hg => by
  unfold okAt at hg ⊢
  simp only [Bool.and_eq_true] at hg ⊢
  exact ⟨okP_mono h hg.1, okAt_mono h hg.2⟩
theorem holds_mono {α : Type} {R Q : α → α → Bool} (h : ∀ a b, R a b = true → Q a b = true) {l u : List (Mb α)} (hg : holds R l u = true) : holds Q l u = true := by
 unfold holds at hg ⊢
 rw [List.all_eq_true] at hg ⊢
 intro m hm
 have := hg m hm
 rw [List.any_eq_true] at this ⊢
 obtain ⟨x, hx, e⟩ := this
 refine ⟨x, hx, ?_⟩
 simp only [Bool.and_eq_true] at e ⊢
 exact ⟨e.1, okAt_mono h e.2⟩
theorem strikeL_sub {S : List (List (Mb Int))} {L : List (Nat × Nat)} {p : Nat × Nat} (h : p ∈ strikeL S L) : p ∈ L := (List.mem_filter.1 h).1
theorem strikeL_stable {S : List (List (Mb Int))} {L : List (Nat × Nat)} : strikeL S L = L ∨ (strikeL S L).length < L.length := by
 unfold strikeL
 by_cases h : ∀ p ∈ L, holds (goesN (inL L)) (shN S p.1) (shN S p.2) = true
 ·exact .inl (List.filter_eq_self.2 h)
 ·right
  refine Nat.lt_of_le_of_ne (List.length_filter_le _ _) fun e => h ?_
  exact List.length_filter_eq_length_iff.1 e
theorem strikes_stable {S : List (List (Mb Int))} : ∀ (n : Nat) (L : List (Nat × Nat)), L.length ≤ n → strikeL S (strikes S n L) = strikes S n L
 | 0, L, h => by
  have : L = [] := List.length_eq_zero_iff.1 (by omega)
  subst this; rfl
 | n + 1, L, h => by
  show strikeL S (strikes S n (strikeL S L)) = strikes S n (strikeL S L)
  rcases strikeL_stable (S := S) (L := L) with e | e
  ·have fx : ∀ m, strikes S m L = L := fun m => by
    induction m with
    | zero => rfl
    | succ m ih => show strikes S m (strikeL S L) = L; rw [e]; exact ih
   rw [e, fx, e]
  ·exact strikes_stable n _ (by omega)
theorem strikes_sub {S : List (List (Mb Int))} {p : Nat × Nat} : ∀ (n : Nat) (L : List (Nat × Nat)), p ∈ strikes S n L → p ∈ L
 | 0, _, h => h
 | n + 1, L, h => strikeL_sub (strikes_sub n _ h)
theorem strikes_keep {S : List (List (Mb Int))} {F : Nat → Nat → Bool} (hF : Closed S F) : ∀ (n : Nat) (L : List (Nat × Nat)), (∀ i k, F i k = true → (i, k) ∈ L) → ∀ i k, F i k = true → (i, k) ∈ strikes S n L
 | 0, _, h => h
 | n + 1, L, h => by
  refine strikes_keep hF n _ fun i k hik => ?_
  refine List.mem_filter.2 ⟨h i k hik, ?_⟩
  exact holds_mono (fun a b => goesN_mono fun i k h' => decide_eq_true (h i k h')) (hF i k hik).2.2.2
theorem gfp_start {S : List (List (Mb Int))} {i k : Nat} (h : (i, k) ∈ gfp S) : i < S.length ∧ k < S.length ∧ hasB (shN S i) (shN S k) = true := by
 have := strikes_sub _ _ h
 obtain ⟨h1, h2⟩ := List.mem_filter.1 this
 exact ⟨(mem_sqr.1 h1).1, (mem_sqr.1 h1).2, h2⟩
theorem gfp_closed (S : List (List (Mb Int))) : Closed S (inL (gfp S)) := by
 intro i k h
 have hm : (i, k) ∈ gfp S := of_decide_eq_true h
 obtain ⟨h1, h2, h3⟩ := gfp_start hm
 refine ⟨h1, h2, h3, ?_⟩
 have hs : strikeL S (gfp S) = gfp S := strikes_stable _ _ (by
  rw [← sqr_length]; exact List.length_filter_le _ _)
 rw [← hs] at hm
 exact (List.mem_filter.1 hm).2
theorem gfp_greatest {S : List (List (Mb Int))} {F : Nat → Nat → Bool} (hF : Closed S F) {i k : Nat} (h : F i k = true) : (i, k) ∈ gfp S := by
 refine strikes_keep hF _ _ (fun i k hik => ?_) i k h
 obtain ⟨h1, h2, h3, _⟩ := hF i k hik
 exact List.mem_filter.2 ⟨mem_sqr.2 ⟨h1, h2⟩, h3⟩
/-- What is closed, and holds all that is, is the greatest one. -/
theorem gfp_eq {S : List (List (Mb Int))} {F : Nat → Nat → Bool} (hF : Closed S F) (hG : ∀ i k, inL (gfp S) i k = true → F i k = true) (i k : Nat) : F i k = inL (gfp S) i k := by
 cases h : F i k with
 | true => exact (decide_eq_true (gfp_greatest hF h)).symm
 | false =>
  cases h2 : inL (gfp S) i k with
  | false => rfl
  | true => rw [hG i k h2] at h; cases h
/-- The order of texts. -/
def lt (a b : ByteArray) : Bool := Op.bytesLess a.toList b.toList
theorem bl_irr : ∀ l : List UInt8, Op.bytesLess l l = false
 | [] => rfl
 | a :: r => by
  have h : ¬ a < a := by simp [UInt8.lt_irrefl]
  simp [Op.bytesLess, h, bl_irr r]
theorem bl_trans : ∀ l m n : List UInt8, Op.bytesLess l m = true → Op.bytesLess m n = true → Op.bytesLess l n = true
 | _, [], _, h, _ => by cases ‹List UInt8› <;> simp [Op.bytesLess] at h
 | _, _ :: _, [], _, h => by simp [Op.bytesLess] at h
 | [], _ :: _, _ :: _, _, _ => by simp [Op.bytesLess]
 | a :: l, b :: m, c :: n, h1, h2 => by
  simp only [Op.bytesLess, Bool.or_eq_true, Bool.and_eq_true, decide_eq_true_eq, beq_iff_eq] at h1 h2 ⊢
  rcases h1 with h1 | ⟨rfl, h1⟩
  ·rcases h2 with h2 | ⟨rfl, h2⟩
   ·exact .inl (UInt8.lt_trans h1 h2)
   ·exact .inl h1
  ·rcases h2 with h2 | ⟨rfl, h2⟩
   ·exact .inl h2
   ·exact .inr ⟨rfl, bl_trans l m n h1 h2⟩
theorem bl_total : ∀ l m : List UInt8, Op.bytesLess l m = false → Op.bytesLess m l = false → l = m
 | [], [], _, _ => rfl
 | [], _ :: _, h, _ => by simp [Op.bytesLess] at h
 | _ :: _, [], _, h => by simp [Op.bytesLess] at h
 | a :: l, b :: m, h1, h2 => by
  simp only [Op.bytesLess, Bool.or_eq_false_iff, Bool.and_eq_false_iff, decide_eq_false_iff_not, beq_eq_false_iff_ne] at h1 h2
  have hab : a = b := by
   have x1 := UInt8.not_lt.1 h1.1
   have x2 := UInt8.not_lt.1 h2.1
   exact UInt8.le_antisymm x2 x1
  subst hab
  rcases h1.2 with h | h
  ·exact absurd rfl h
  ·rcases h2.2 with h' | h'
   ·exact absurd rfl h'
   ·rw [bl_total l m h h']
theorem lt_irr (a : ByteArray) : lt a a = false := bl_irr _
theorem lt_trans {a b c : ByteArray} (h : lt a b = true) (k : lt b c = true) : lt a c = true := bl_trans _ _ _ h k
theorem toList_inj {a b : ByteArray} (h : a.toList = b.toList) : a = b := by
 rw [ByteArray.toList_eq, ByteArray.toList_eq] at h
 exact ByteArray.ext (Array.toList_inj.1 h)
theorem lt_total {a b : ByteArray} (h : lt a b = false) (k : lt b a = false) : a = b := toList_inj (bl_total _ _ h k)
/-- Names ascend. -/
def Asc {α : Type} (l : List (Mb α)) : Prop := l.Pairwise fun x y => lt x.name y.name = true
/-- From a place on, the first one whose name is not ahead of that name. -/
def seek {α : Type} (L : List (Mb α)) (k : Nat) (nm : ByteArray) : Nat := k + (L.drop k).findIdx fun x => !lt x.name nm
def hit {α : Type} (L : List (Mb α)) (k : Nat) (nm : ByteArray) : Bool := match L[k]? with
 | some x => decide (x.name = nm)
 | none => false
theorem seek_end {α : Type} {L : List (Mb α)} {nm : ByteArray} : seek L L.length nm = L.length := by unfold seek; simp
theorem seek_here {α : Type} {L : List (Mb α)} {nm : ByteArray} {k : Nat} {x : Mb α} (h : L[k]? = some x) (hl : lt x.name nm = false) : seek L k nm = k := by
 obtain ⟨hk, rfl⟩ := List.getElem?_eq_some_iff.1 h
 unfold seek
 rw [List.drop_eq_getElem_cons hk, List.findIdx_cons, hl]; rfl
theorem seek_next {α : Type} {L : List (Mb α)} {nm : ByteArray} {k : Nat} {x : Mb α} (h : L[k]? = some x) (hl : lt x.name nm = true) : seek L k nm = seek L (k + 1) nm := by
 obtain ⟨hk, rfl⟩ := List.getElem?_eq_some_iff.1 h
 unfold seek
 rw [List.drop_eq_getElem_cons hk, List.findIdx_cons, hl]
 show k + (List.findIdx _ (L.drop (k + 1)) + 1) = _
 omega
theorem seek_le {α : Type} {L : List (Mb α)} {nm : ByteArray} {k : Nat} (h : k ≤ L.length) : seek L k nm ≤ L.length := by
 unfold seek
 have := List.findIdx_le_length (xs := L.drop k) (p := fun x => !lt x.name nm)
 rw [List.length_drop] at this
 omega
theorem hit_end {α : Type} {L : List (Mb α)} {nm : ByteArray} : hit L L.length nm = false := by unfold hit; simp
theorem hit_at {α : Type} {L : List (Mb α)} {nm : ByteArray} {k : Nat} {x : Mb α} (h : L[k]? = some x) : hit L k nm = decide (x.name = nm) := by unfold hit; rw [h]
/-- Behind a search all names ahead are ahead of that name. -/
theorem seek_before {α : Type} {L : List (Mb α)} {nm : ByteArray} {k : Nat} (h : ∀ i x, i < k → L[i]? = some x → lt x.name nm = true) : ∀ i x, i < seek L k nm → L[i]? = some x → lt x.name nm = true := by
 intro i x hi hx
 by_cases hk : i < k
 ·exact h i x hk hx
 ·unfold seek at hi
  obtain ⟨hl, rfl⟩ := List.getElem?_eq_some_iff.1 hx
  have := List.not_of_lt_findIdx (xs := L.drop k) (p := fun x => !lt x.name nm) (i := i - k) (by omega)
  simp only [List.getElem_drop] at this
  have e : k + (i - k) = i := by omega
  simp only [e] at this
  simpa using this
/-- What a search finds, it finds just if it is there. -/
theorem seek_hit {α : Type} {L : List (Mb α)} (hA : Asc L) {nm : ByteArray} {k : Nat} (hk : k ≤ L.length) (h : ∀ i x, i < k → L[i]? = some x → lt x.name nm = true) {j : Nat} {x : Mb α} (hx : L[j]? = some x) (hn : x.name = nm) : j = seek L k nm := by
 obtain ⟨hj, rfl⟩ := List.getElem?_eq_some_iff.1 hx
 have hb := seek_before h
 have hle := seek_le (nm := nm) hk
 rcases Nat.lt_trichotomy j (seek L k nm) with e | e | e
 ·have := hb j _ e (List.getElem?_eq_getElem hj)
  rw [hn, lt_irr] at this; cases this
 ·exact e
 ·have hs : seek L k nm < L.length := by omega
  have h1 : lt L[seek L k nm].name nm = true := by
   have := List.pairwise_iff_getElem.1 hA (seek L k nm) j hs hj e
   rwa [hn] at this
  have h2 : (L.drop k).findIdx (fun x => !lt x.name nm) < (L.drop k).length := by unfold seek at hs; rw [List.length_drop]; omega
  have := List.findIdx_getElem (w := h2)
  simp only [List.getElem_drop] at this
  have h3 : (!lt L[seek L k nm].name nm) = true := this
  rw [h1] at h3; cases h3
end Go.Proofs.YtjdkegfckkbpeaaGreatDoor.Tab
namespace Go.Proofs.YtjdkegfckkbpeaaGreatDoor
open Go.ChangeShapes Go.WideShapes Go.ChangeAt Go.RowKit
def IntAt (w : World) (b o : Nat) (n : Int) : Prop := w.cell? ⟨b, o, none⟩ = some (.int .i64 n)
def MbAt (w : World) (b o : Nat) (x : Tab.Mb Int) : Prop :=
 w.cell? ⟨b, o, none⟩ = some (.string x.name) ∧ w.cell? ⟨b, o + 1, none⟩ = some (.int .i64 x.ar) ∧ (∃ v, w.cell? ⟨b, o + 2, none⟩ = some v ∧ Row 1 IntAt w v x.types) ∧ x.name.size ≤ maxLen
abbrev ShpAt (w : World) (v : Value) (L : List (Tab.Mb Int)) : Prop := Row 3 MbAt w v L
theorem MbAt.kept {w w' : World} {b o : Nat} {x : Tab.Mb Int} (h : MbAt w b o x) (k : Kept w w') : MbAt w' b o x := by
 obtain ⟨h1, h2, ⟨v, h3, h4⟩, h5⟩ := h
 exact ⟨k.cell h1, k.cell h2, ⟨v, k.cell h3, h4.mono fun _ _ _ r => k.cell r⟩, h5⟩
theorem shp_kept {w w' : World} {v : Value} {l : List (Tab.Mb Int)} (h : ShpAt w v l) (k : Kept w w') : ShpAt w' v l := h.mono fun _ _ _ r => r.kept k
set_option maxHeartbeats 2000000 in
theorem cfind_c (L : List (Tab.Mb Int)) (a : Option Addr) (c k : Nat) (nm : ByteArray) (w : World) (h : ShpAt w (.slice a L.length c) L) (hk : k ≤ L.length) :
  Calls Tryz.prog 121 #[.slice a L.length c, .int .i64 k, .string nm] w fun e w' => e = .returned (.tuple #[.int .i64 (Tab.seek L k nm : Nat), .bool (Tab.hit L (Tab.seek L k nm) nm)]) ∧ Kept w w' := by
 obtain ⟨a', c', e, hlc, hcm, hat⟩ := h
 injection e with e1 _ e2
 subst e1 e2
 unfold maxLen at hcm
 obtain ⟨sk, hsk⟩ : ∃ sk, sk = Tab.seek L k nm := ⟨_, rfl⟩
 obtain ⟨ht, hht⟩ : ∃ ht, ht = Tab.hit L sk nm := ⟨_, rfl⟩
 rw [← hsk, ← hht]
 have HSK := Lib.hid hsk
 have HHT := Lib.hid hht
 clear hsk hht
 go_enter Tryz.func121, Tryz.ntmps121
 go_wp2
 go_loopw [1] (fun i wr => ∃ j : Nat, j ≤ L.length ∧ i = .int .i64 j ∧ wr = w ∧ Hid (Tab.seek L j nm = sk)) (fun i wr => L.length - (intOf i).toNat)
 case atStart => exact ⟨k, hk, rfl, by first | trivial | rfl, Lib.hid HSK.out.symm⟩
 case round =>
  obtain ⟨j, hj, rfl, rfl, hs⟩ := hrel
  by_cases hlt : j < L.length
  ·have hx : L[j]? = some L[j] := List.getElem?_eq_getElem hlt
   obtain ⟨b, o, rfl, h0, h1, h2, h3⟩ := hat j _ hx
   generalize L[j] = x at hx h0 h1 h2 h3
   have hltI : (j : Int) < (L.length : Int) := by omega
   cases hb : Tab.lt x.name nm with
   | true =>
    have HN := Lib.hid ((Tab.seek_next hx hb).symm.trans hs.out)
    have hb' : Op.bytesLess x.name.toList nm.toList = true := hb
    clear hs hat hx hb h1 h2 h3
    go_wp2_with fail
    go_roundw
    case rel => exact ⟨j + 1, by omega, by go_num, by first | trivial | rfl, HN⟩
    case measure => simp [intOf]; omega
   | false =>
    have hb' : Op.bytesLess x.name.toList nm.toList = false := hb
    have e : sk = j := hs.out.symm.trans (Tab.seek_here hx hb)
    have eh : Tab.hit L j nm = decide (x.name = nm) := Tab.hit_at hx
    have HE := Lib.hid e
    have HH := Lib.hid ((HHT.out.trans (by rw [e])).trans eh)
    clear hs hat hx hb h1 h2 h3 e eh
    by_cases hn : x.name = nm
    ·have hq := beq_yes hn
     have HQ := Lib.hid (HH.out.trans (decide_eq_true hn))
     clear hn
     go_wp2_with fail
     go_quiet (fail)
     go_wp2_with fail
     go_ret2
     exact ⟨by rw [HE.out, HQ.out]; rfl, (Kept.refl _).drewN _⟩
    ·have hq := beq_no hn
     have HQ := Lib.hid (HH.out.trans (decide_eq_false hn))
     clear hn
     go_wp2_with fail
     go_quiet (fail)
     go_wp2_with fail
     go_ret2
     exact ⟨by rw [HE.out, HQ.out]; rfl, (Kept.refl _).drewN _⟩
  ·have hltI : ¬ (j : Int) < (L.length : Int) := by omega
   obtain rfl : j = L.length := by omega
   have e : sk = L.length := hs.out.symm.trans Tab.seek_end
   have HE := Lib.hid e
   have HQ := Lib.hid ((HHT.out.trans (by rw [e])).trans Tab.hit_end)
   clear hs hat e
   go_wp2_with fail
   go_quiet (fail)
   go_wp2_with fail
   go_ret2
   exact ⟨by rw [HE.out, HQ.out]; rfl, (Kept.refl _).drewN _⟩
end Go.Proofs.YtjdkegfckkbpeaaGreatDoor
namespace Go.Proofs.YtjdkegfckkbpeaaGreatDoor.Tab
def has1 {α : Type} (L : List (Mb α)) (m : Mb α) : Bool := L.any fun x => alike x m
theorem all_no {α : Type} {p : α → Bool} {U : List α} {j : Nat} {m : α} (h : U[j]? = some m) (hp : p m = false) : U.all p = false := by
 rw [List.all_eq_false]
 exact ⟨m, List.mem_of_getElem? h, by simp [hp]⟩
theorem all_yes {α : Type} {p : α → Bool} {U : List α} (h : (U.take U.length).all p = true) : U.all p = true := by rwa [List.take_length] at h
theorem all_next {α : Type} {p : α → Bool} {U : List α} {j : Nat} {m : α} (h : (U.take j).all p = true) (hm : U[j]? = some m) (hp : p m = true) : (U.take (j + 1)).all p = true := by
 rw [List.take_add_one, hm, List.all_append, h]; simp [hp]
/-- All names of the first k of L are ahead of all names of U from j on. -/
def Ahead {α β : Type} (L : List (Mb α)) (k : Nat) (U : List (Mb β)) (j : Nat) : Prop := ∀ i x, i < k → L[i]? = some x → ∀ q y, j ≤ q → U[q]? = some y → lt x.name y.name = true
theorem Ahead.start {α β : Type} (L : List (Mb α)) (U : List (Mb β)) (j : Nat) : Ahead L 0 U j := fun i x h => by omega
theorem Ahead.next {α β : Type} {L : List (Mb α)} {k : Nat} {U : List (Mb β)} {j : Nat} (hU : Asc U) (h : Ahead L k U j) {m : Mb β} (hm : U[j]? = some m) : Ahead L (seek L k m.name) U (j + 1) := by
 intro i x hi hx q y hq hy
 have h1 := seek_before (fun i x hi hx => h i x hi hx j m (Nat.le_refl _) hm) i x hi hx
 obtain ⟨hj, rfl⟩ := List.getElem?_eq_some_iff.1 hm
 obtain ⟨hq', rfl⟩ := List.getElem?_eq_some_iff.1 hy
 exact lt_trans h1 (List.pairwise_iff_getElem.1 hU j q hj hq' (by omega))
theorem Ahead.at {α β : Type} {L : List (Mb α)} {k : Nat} {U : List (Mb β)} {j : Nat} (h : Ahead L k U j) {m : Mb β} (hm : U[j]? = some m) : ∀ i x, i < k → L[i]? = some x → lt x.name m.name = true :=
 fun i x hi hx => h i x hi hx j m (Nat.le_refl _) hm
theorem hit_some {α : Type} {L : List (Mb α)} {k : Nat} {nm : ByteArray} (h : hit L k nm = true) : ∃ x, L[k]? = some x ∧ x.name = nm := by
 unfold hit at h
 split at h
 ·rename_i x hx; exact ⟨x, hx, of_decide_eq_true h⟩
 ·cases h
theorem miss_none {α : Type} {L : List (Mb α)} (hA : Asc L) {nm : ByteArray} {k : Nat} (hk : k ≤ L.length) (hb : ∀ i x, i < k → L[i]? = some x → lt x.name nm = true) (h : hit L (seek L k nm) nm = false) : ∀ x ∈ L, ¬ x.name = nm := by
 intro x hx e
 obtain ⟨j, hj, rfl⟩ := List.getElem_of_mem hx
 have := seek_hit hA hk hb (List.getElem?_eq_getElem hj) e
 have hx' : L[seek L k nm]? = some L[j] := by rw [← this]; exact List.getElem?_eq_getElem hj
 rw [hit_at hx'] at h
 exact absurd e (of_decide_eq_false h)
theorem has1_no {α : Type} {L : List (Mb α)} (hA : Asc L) {m : Mb α} {k : Nat} (hk : k ≤ L.length) (hb : ∀ i x, i < k → L[i]? = some x → lt x.name m.name = true) (h : hit L (seek L k m.name) m.name = false) : has1 L m = false := by
 unfold has1
 rw [List.any_eq_false]
 intro x hx
 have := miss_none hA hk hb h x hx
 simp [alike, this]
theorem asc_eq {α : Type} {L : List (Mb α)} (hA : Asc L) {x y : Mb α} {i : Nat} (hx : L[i]? = some x) (hy : y ∈ L) (e : y.name = x.name) : y = x := by
 obtain ⟨j, hj, rfl⟩ := List.getElem_of_mem hy
 obtain ⟨hi, rfl⟩ := List.getElem?_eq_some_iff.1 hx
 rcases Nat.lt_trichotomy j i with q | q | q
 ·have := List.pairwise_iff_getElem.1 hA j i hj hi q
  rw [e, lt_irr] at this; cases this
 ·subst q; rfl
 ·have := List.pairwise_iff_getElem.1 hA i j hi hj q
  rw [e, lt_irr] at this; cases this
theorem has1_at {α : Type} {L : List (Mb α)} (hA : Asc L) {m x : Mb α} {i : Nat} (hx : L[i]? = some x) (hn : x.name = m.name) : has1 L m = decide (x.ar = m.ar) := by
 unfold has1
 cases hd : decide (x.ar = m.ar) with
 | true => exact List.any_eq_true.2 ⟨x, List.mem_of_getElem? hx, by simp [alike, hn, of_decide_eq_true hd]⟩
 | false =>
  rw [List.any_eq_false]
  intro y hy
  by_cases e : y.name = m.name
  ·obtain rfl := asc_eq hA hx hy (e.trans hn.symm)
   have := of_decide_eq_false hd
   simp [alike, this]
  ·simp [alike, e]
end Go.Proofs.YtjdkegfckkbpeaaGreatDoor.Tab
namespace Go.Proofs.YtjdkegfckkbpeaaGreatDoor
open Go.ChangeShapes Go.WideShapes Go.ChangeAt Go.RowKit
set_option maxHeartbeats 4000000 in
theorem chas_c (L U : List (Tab.Mb Int)) (a a' : Option Addr) (c c' : Nat) (w : World) (h : ShpAt w (.slice a L.length c) L) (h' : ShpAt w (.slice a' U.length c') U) (hL : Tab.Asc L) (hU : Tab.Asc U) :
  Calls Tryz.prog 85 #[.slice a L.length c, .slice a' U.length c'] w fun e w' => e = .returned (.bool (Tab.hasB L U)) ∧ Kept w w' := by
 have HL := Lib.hid h
 obtain ⟨x1, x2, e, hlc, hcm, hat'⟩ := h'
 injection e with e1 _ e2
 subst e1 e2
 unfold maxLen at hcm
 have HAT := Lib.hid hat'
 have hLm : L.length ≤ 9223372036854775807 := by
  obtain ⟨_, _, e, q1, q2, _⟩ := h
  unfold maxLen at q2
  omega
 obtain ⟨hb, hhb⟩ : ∃ hb, hb = Tab.hasB L U := ⟨_, rfl⟩
 rw [← hhb]
 have HHB := Lib.hid hhb
 clear hhb hat' h
 go_enter Tryz.func85, Tryz.ntmps85
 go_wp2_with fail
 go_loopw [5, 11] (fun p q wr => ∃ k j : Nat, k ≤ L.length ∧ j ≤ U.length ∧ p = .int .i64 k ∧ q = .int .i64 j ∧ Kept w wr ∧ Tab.Ahead L k U j ∧ (U.take j).all (Tab.has1 L) = true) (fun p q wr => U.length - (intOf q).toNat)
 case atStart => exact ⟨0, 0, Nat.zero_le _, Nat.zero_le _, rfl, rfl, Kept.refl _, Tab.Ahead.start _ _ _, by simp⟩
 case round =>
  obtain ⟨k, j, hk, hj, rfl, rfl, hkp, hah, hall⟩ := hrel
  have HKP := Lib.hid hkp
  have HAH := Lib.hid hah
  have HALL := Lib.hid hall
  clear hah hall
  by_cases hlt : j < U.length
  ·have hx : U[j]? = some U[j] := List.getElem?_eq_getElem hlt
   obtain ⟨b, o, rfl, hm⟩ := HAT.out j _ hx
   generalize U[j] = m at hx hm
   obtain ⟨m0, m1, ⟨mv, m2, hmv⟩, hms⟩ := hm.kept hkp
   have HX := Lib.hid hx
   have hltI : (j : Int) < (U.length : Int) := by omega
   have HF := Lib.hid (fun W (kw : Kept w W) => cfind_c L a c k m.name W (shp_kept HL.out kw) hk)
   obtain ⟨va, vn, vc, rfl⟩ : ∃ va vn vc, mv = .slice va vn vc := by
    obtain ⟨va, vc, e, _⟩ := hmv
    exact ⟨_, _, _, e⟩
   clear hx hm hkp hmv hms
   go_wp2_with fail
   refine (HF.out _ (HKP.out.alloc _)).mono ?_
   rintro e w1 ⟨rfl, k1⟩
   have hB := (Blk.new wr 170 #[.string m.name, .int .i64 m.ar, .slice va vn vc]).kept k1
   have z1 := hB.cell 1
   simp only [List.getElem?_toArray, List.getElem?_cons_zero, List.getElem?_cons_succ] at z1
   have HK1 := Lib.hid ((HKP.out.alloc _).trans k1)
   have HSL := Lib.hid (Tab.seek_le (nm := m.name) hk)
   have HNX := Lib.hid (Tab.Ahead.next hU HAH.out HX.out)
   have HAT2 := Lib.hid (HAH.out.at HX.out)
   clear hB k1 m0 m1 m2
   cases hh : Tab.hit L (Tab.seek L k m.name) m.name with
   | false =>
    have HQ := Lib.hid (HHB.out.trans (Tab.all_no HX.out (Tab.has1_no hL hk HAT2.out hh)))
    clear hh
    generalize Tab.seek L k m.name = k2 at *
    go_wp2_with fail
    go_quiet (fail)
    go_wp2_with fail
    go_ret
    exact ⟨by rw [HQ.out]; rfl, HK1.out.drewN _⟩
   | true =>
    obtain ⟨x, hx, hn⟩ := Tab.hit_some hh
    have HH1 := Lib.hid (Tab.has1_at hL hx hn)
    obtain ⟨b2, o2, rfl, hm⟩ : ∃ b2 o2, a = some ⟨b2, o2, none⟩ ∧ MbAt w b2 (o2 + Tab.seek L k m.name * 3) x := by
     obtain ⟨y1, y2, e, _, _, q⟩ := HL.out
     injection e with e1 _ _
     subst e1
     exact q _ _ hx
    obtain ⟨n0, n1, _⟩ := hm.kept HK1.out
    have hklt : Tab.seek L k m.name < L.length := (List.getElem?_eq_some_iff.1 hx).1
    clear hh hx hn hm n0
    generalize Tab.seek L k m.name = k2 at *
    have hkltI : (k2 : Int) < (L.length : Int) := by omega
    by_cases ha : x.ar = m.ar
    ·have hd : (x.ar == m.ar) = true := by simp [ha]
     have hd2 : decide (x.ar = m.ar) = true := decide_eq_true ha
     have HA := Lib.hid (Tab.all_next HALL.out HX.out (HH1.out.trans hd2))
     have HAR := Lib.hid ha
     rw [ha] at n1
     clear ha hd hd2
     go_wp2_with fail
     go_quiet (fail)
     go_wp2_with fail
     go_roundw
     case rel => exact ⟨k2, j + 1, by omega, by omega, rfl, by go_num, HK1.out.drewN _, HNX.out, HA.out⟩
     case measure => simp [intOf]; omega
    ·have hd : (x.ar == m.ar) = false := by simp [ha]
     have hd2 : decide (x.ar = m.ar) = false := decide_eq_false ha
     have HQ := Lib.hid (HHB.out.trans (Tab.all_no HX.out (HH1.out.trans hd2)))
     go_wp2_with fail
     go_quiet (fail)
     go_wp2_with fail
     go_ret
     exact ⟨by rw [HQ.out]; rfl, HK1.out.drewN _⟩
  ·have hltI : ¬ (j : Int) < (U.length : Int) := by omega
   obtain rfl : j = U.length := by omega
   have HQ := Lib.hid (HHB.out.trans (Tab.all_yes HALL.out))
   go_wp2_with fail
   go_ret
   exact ⟨by rw [HQ.out]; rfl, HKP.out⟩
end Go.Proofs.YtjdkegfckkbpeaaGreatDoor
namespace Go.Proofs.YtjdkegfckkbpeaaGreatDoor.Tab
/-- Two types. -/
abbrev P2 := ByteArray × ByteArray
/-- A pair that holds, whatever members there are. -/
def alw (p : P2) : Bool := decide (p.1 = p.2) || decide (p.2 = ⟨#[63]⟩)
def zipT (l u : List ByteArray) : List P2 := (l.zip u).filter fun p => !alw p
def zip1 (L : List (Mb ByteArray)) (m : Mb ByteArray) : List P2 := match L.find? (fun x => alike x m) with
 | some x => zipT x.types m.types
 | none => []
def zipP (L U : List (Mb ByteArray)) : List P2 := U.flatMap (zip1 L)
/-- What zip tells. -/
def zipR (L U : List (Mb ByteArray)) : List P2 := if hasB L U then zipP L U else []
def TLp (m : Mb ByteArray) : Prop := m.types.length = if m.ar < 0 then 1 else m.ar.toNat + 1
/-- Both are classes. -/
def both (t : List C) (p : P2) : Bool := isC t p.1 && isC t p.2
/-- What is closed in itself. -/
def Clo (t : List C) (F : P2 → Prop) : Prop := ∀ p, F p → both t p = true ∧ hasB (mbs t p.1) (mbs t p.2) = true ∧
 ∀ m ∈ mbs t p.2, ∀ x ∈ mbs t p.1, alike x m = true → ∀ q ∈ zipT x.types m.types, F q
/-- The greatest relation. -/
def Pre (t : List C) (p : P2) : Prop := ∃ F, Clo t F ∧ F p
theorem pre_closed (t : List C) : Clo t (Pre t) := by
 rintro p ⟨F, hF, hp⟩
 obtain ⟨h1, h2, h3⟩ := hF p hp
 exact ⟨h1, h2, fun m hm x hx ha q hq => ⟨F, hF, h3 m hm x hx ha q hq⟩⟩
noncomputable def prec (t : List C) (p : P2) : Bool := @decide (Pre t p) (Classical.propDecidable _)
theorem prec_iff {t : List C} {p : P2} : prec t p = true ↔ Pre t p := by
 unfold prec
 exact @decide_eq_true_iff _ (Classical.propDecidable _)
/-- P8.1 -/
noncomputable def pcs (t : List C) (p : P2) : Bool := alw p || prec t p
noncomputable def precise (t : List C) (s u : ByteArray) : Bool := ats t s u && pcs t (s, u)
theorem alike_iff {α : Type} {x m : Mb α} : alike x m = true ↔ x.name = m.name ∧ x.ar = m.ar := by
 unfold alike; simp
/-- The members of classes, by ascending names. -/
structure Cl (t : List C) (ls : ByteArray → List (Mb ByteArray)) : Prop where
 none : ∀ s, isC t s = false → ls s = []
 perm : ∀ s, isC t s = true → (ls s).Perm (mbs t s)
 asc : ∀ s, Asc (ls s)
 tl : ∀ s, ∀ x ∈ ls s, TLp x
def need (ls : ByteArray → List (Mb ByteArray)) (p : P2) : List P2 := zipR (ls p.1) (ls p.2)
def hsv (ls : ByteArray → List (Mb ByteArray)) (p : P2) : Bool := hasB (ls p.1) (ls p.2)
theorem hasB_iff {α : Type} {L U : List (Mb α)} : hasB L U = true ↔ ∀ m ∈ U, ∃ x ∈ L, alike x m = true := by
 unfold hasB
 simp [List.all_eq_true, List.any_eq_true]
theorem asc_unique {α : Type} {L : List (Mb α)} (hA : Asc L) {x y : Mb α} (hx : x ∈ L) (hy : y ∈ L) (e : y.name = x.name) : y = x := by
 obtain ⟨i, hi, rfl⟩ := List.getElem_of_mem hx
 exact asc_eq hA (List.getElem?_eq_getElem hi) hy e
theorem find_alike {L : List (Mb ByteArray)} (hA : Asc L) {x m : Mb ByteArray} (hx : x ∈ L) (ha : alike x m = true) : L.find? (fun x => alike x m) = some x := by
 cases h : L.find? (fun x => alike x m) with
 | none => exact absurd ha (by simpa using List.find?_eq_none.1 h x hx)
 | some y =>
  have h1 := List.find?_some h
  have h2 := List.mem_of_find?_eq_some h
  rw [asc_unique hA hx h2 ((alike_iff.1 h1).1.trans (alike_iff.1 ha).1.symm)]
theorem mem_zipP {L U : List (Mb ByteArray)} (hA : Asc L) {q : P2} : q ∈ zipP L U ↔ ∃ m ∈ U, ∃ x ∈ L, alike x m = true ∧ q ∈ zipT x.types m.types := by
 unfold zipP
 rw [List.mem_flatMap]
 constructor
 ·rintro ⟨m, hm, hq⟩
  unfold zip1 at hq
  split at hq
  ·rename_i x h
   exact ⟨m, hm, x, List.mem_of_find?_eq_some h, by simpa using List.find?_some (p := fun x => alike x m) h, hq⟩
  ·cases hq
 ·rintro ⟨m, hm, x, hx, ha, hq⟩
  refine ⟨m, hm, ?_⟩
  unfold zip1
  rw [find_alike hA hx ha]
  exact hq
theorem Cl.hs {t : List C} {ls : ByteArray → List (Mb ByteArray)} (h : Cl t ls) {p : P2} (hb : both t p = true) : hsv ls p = hasB (mbs t p.1) (mbs t p.2) := by
 unfold both at hb
 simp only [Bool.and_eq_true] at hb
 have e1 := h.perm _ hb.1
 have e2 := h.perm _ hb.2
 unfold hsv
 rw [Bool.eq_iff_iff, hasB_iff, hasB_iff]
 constructor
 ·intro k m hm
  obtain ⟨x, hx, ha⟩ := k m (e2.mem_iff.2 hm)
  exact ⟨x, e1.mem_iff.1 hx, ha⟩
 ·intro k m hm
  obtain ⟨x, hx, ha⟩ := k m (e2.mem_iff.1 hm)
  exact ⟨x, e1.mem_iff.2 hx, ha⟩
theorem Cl.need {t : List C} {ls : ByteArray → List (Mb ByteArray)} (h : Cl t ls) {p : P2} (hb : both t p = true) (hh : hsv ls p = true) {q : P2} : q ∈ need ls p ↔ ∃ m ∈ mbs t p.2, ∃ x ∈ mbs t p.1, alike x m = true ∧ q ∈ zipT x.types m.types := by
 unfold both at hb
 simp only [Bool.and_eq_true] at hb
 have e1 := h.perm _ hb.1
 have e2 := h.perm _ hb.2
 unfold Tab.need zipR
 rw [if_pos (show hasB (ls p.1) (ls p.2) = true from hh), mem_zipP (h.asc _)]
 constructor
 ·rintro ⟨m, hm, x, hx, r⟩
  exact ⟨m, e2.mem_iff.1 hm, x, e1.mem_iff.1 hx, r⟩
 ·rintro ⟨m, hm, x, hx, r⟩
  exact ⟨m, e2.mem_iff.2 hm, x, e1.mem_iff.2 hx, r⟩
/-- What a pair that holds asks. -/
theorem Cl.pre {t : List C} {ls : ByteArray → List (Mb ByteArray)} (h : Cl t ls) {p : P2} (hp : Pre t p) : both t p = true ∧ hsv ls p = true ∧ ∀ q ∈ Tab.need ls p, Pre t q := by
 obtain ⟨h1, h2, h3⟩ := pre_closed t p hp
 have hh : hsv ls p = true := (h.hs h1).trans h2
 refine ⟨h1, hh, fun q hq => ?_⟩
 obtain ⟨m, hm, x, hx, ha, hq⟩ := (h.need h1 hh).1 hq
 exact h3 m hm x hx ha q hq
/-- A list of pairs that is closed in itself. -/
theorem Cl.closed {t : List C} {ls : ByteArray → List (Mb ByteArray)} (h : Cl t ls) {D : List P2} (h1 : ∀ p ∈ D, both t p = true) (h2 : ∀ p ∈ D, hsv ls p = true ∧ ∀ q ∈ Tab.need ls p, q ∈ D) : ∀ p ∈ D, Pre t p := by
 intro p hp
 refine ⟨(· ∈ D), fun p hp => ?_, hp⟩
 have hb := h1 p hp
 obtain ⟨hh, hn⟩ := h2 p hp
 refine ⟨hb, (h.hs hb).symm.trans hh, fun m hm x hx ha q hq => hn q ((h.need hb hh).2 ⟨m, hm, x, hx, ha, hq⟩)⟩
def inP (D : List P2) (p : P2) : Bool := D.any fun q => decide (q = p)
theorem inP_iff {D : List P2} {p : P2} : inP D p = true ↔ p ∈ D := by unfold inP; simp
theorem inP_no {D : List P2} {p : P2} : inP D p = false ↔ ¬ p ∈ D := by
 rw [← inP_iff]; simp
def offP (D : List P2) (p : P2) : List P2 := D.filter fun q => !decide (q = p)
theorem mem_offP {D : List P2} {p q : P2} : q ∈ offP D p ↔ q ∈ D ∧ ¬ q = p := by unfold offP; simp
theorem offP_no {D : List P2} {p : P2} (h : ¬ p ∈ D) : offP D p = D := by
 unfold offP
 refine List.filter_eq_self.2 fun q hq => ?_
 have : ¬ q = p := fun e => h (e ▸ hq)
 simp [this]
theorem offP_nodup {D : List P2} {p : P2} (h : D.Nodup) : (offP D p).Nodup := h.sublist List.filter_sublist
theorem offP_len : ∀ {D : List P2} {p : P2}, D.Nodup → p ∈ D → (offP D p).length + 1 = D.length
 | [], p, _, h => by cases h
 | a :: r, p, hn, h => by
  obtain ⟨h1, h2⟩ := List.nodup_cons.1 hn
  by_cases e : a = p
  ·subst e
   unfold offP
   rw [List.filter_cons]
   simp only [decide_true, Bool.not_true]
   have := offP_no h1
   unfold offP at this
   simp [this]
  ·have hr : p ∈ r := by
    rcases List.mem_cons.1 h with h | h
    ·exact absurd h.symm e
    ·exact h
   have := offP_len h2 hr
   unfold offP at this ⊢
   rw [List.filter_cons]
   simp [e, this]
/-- Of a set of pairs: each that holds asks for nothing but what is in it. -/
def Rel (t : List C) (ls : ByteArray → List (Mb ByteArray)) (K : List P2) : Prop := (∀ p ∈ K, both t p = true) ∧ ∀ p ∈ K, Pre t p → ∀ q ∈ need ls p, q ∈ K
/-- What is left of it: all that holds. -/
def Left (t : List C) (K D : List P2) : Prop := (∀ p ∈ D, p ∈ K) ∧ ∀ p ∈ K, Pre t p → p ∈ D
def okN (ls : ByteArray → List (Mb ByteArray)) (D : List P2) (p : P2) : Bool := hsv ls p && (need ls p).all (inP D)
theorem Left.off {t : List C} {ls : ByteArray → List (Mb ByteArray)} (h : Cl t ls) {K D : List P2} (hK : Rel t ls K) (hL : Left t K D) {p : P2} (hn : okN ls D p = false) : Left t K (offP D p) := by
 refine ⟨fun q hq => hL.1 q (mem_offP.1 hq).1, fun q hq hp => mem_offP.2 ⟨hL.2 q hq hp, ?_⟩⟩
 rintro rfl
 obtain ⟨_, h2, h3⟩ := h.pre hp
 unfold okN at hn
 rw [h2, Bool.true_and, List.all_eq_false] at hn
 obtain ⟨r, hr, hr'⟩ := hn
 exact hr' (inP_iff.2 (hL.2 r (hK.2 q hq hp r hr) (h3 r hr)))
/-- When nothing is struck out any more. -/
theorem Left.end {t : List C} {ls : ByteArray → List (Mb ByteArray)} (h : Cl t ls) {K D : List P2} (hK : Rel t ls K) (hL : Left t K D) (hD : ∀ p ∈ D, okN ls D p = true) {p : P2} (hp : p ∈ K) : inP D p = prec t p := by
 rw [Bool.eq_iff_iff, inP_iff, prec_iff]
 refine ⟨fun hd => ?_, fun hd => hL.2 p hp hd⟩
 refine h.closed (D := D) (fun p hp => hK.1 p (hL.1 p hp)) (fun p hp => ?_) p hd
 have := hD p hp
 unfold okN at this
 simp only [Bool.and_eq_true] at this
 exact ⟨this.1, fun q hq => inP_iff.1 (List.all_eq_true.1 this.2 q hq)⟩
theorem Left.gone {t : List C} {K D : List P2} (hL : Left t K D) {p : P2} (hp : p ∈ K) (hd : ¬ p ∈ D) : prec t p = false := by
 cases h : prec t p with
 | false => rfl
 | true => exact absurd (hL.2 p hp (prec_iff.1 h)) hd
/-- A round's middle: nothing has been struck out and all so far hold, or something has. -/
def Mid (ls : ByteArray → List (Mb ByteArray)) (D0 D : List P2) (ps : List P2) (j : Nat) : Prop := (D = D0 ∧ ∀ p ∈ ps.take j, p ∈ D0 → okN ls D0 p = true) ∨ D.length < D0.length
theorem Mid.start {ls : ByteArray → List (Mb ByteArray)} {D ps : List P2} : Mid ls D D ps 0 := .inl ⟨rfl, fun p h => by simp at h⟩
theorem Mid.keep {ls : ByteArray → List (Mb ByteArray)} {D0 D ps : List P2} {j : Nat} (h : Mid ls D0 D ps j) {p : P2} (hp : ps[j]? = some p) (ho : p ∈ D → okN ls D p = true) : Mid ls D0 D ps (j + 1) := by
 rcases h with ⟨rfl, h⟩ | h
 ·refine .inl ⟨rfl, fun q hq hqd => ?_⟩
  rw [List.take_add_one, hp] at hq
  rcases List.mem_append.1 hq with hq | hq
  ·exact h q hq hqd
  ·simp at hq
   subst hq
   exact ho hqd
 ·exact .inr h
theorem Mid.off {ls : ByteArray → List (Mb ByteArray)} {D0 D ps : List P2} {j : Nat} (h : Mid ls D0 D ps j) (hn : D.Nodup) {p : P2} (hd : p ∈ D) : Mid ls D0 (offP D p) ps (j + 1) := by
 have := offP_len hn hd
 rcases h with ⟨rfl, h⟩ | h
 ·exact .inr (by omega)
 ·exact .inr (by omega)
/-- The list that is gone through: what it holds is closed but for what is yet to come. -/
structure Todo (t : List C) (ls : ByteArray → List (Mb ByteArray)) (asked : P2) (B : Nat) (D todo : List P2) (at' : Nat) : Prop where
 first : todo[0]? = some asked
 have' : ∀ p ∈ todo, both t p = true
 done : ∀ i, i < at' → ∀ p, todo[i]? = some p → p ∈ D
 from' : ∀ p ∈ D, p ∈ todo
 more' : ∀ p ∈ D, (need ls p).all (both t) = true → ∀ q ∈ need ls p, q ∈ todo
 len : todo.length ≤ 1 + B * D.length
theorem Todo.end {t : List C} {ls : ByteArray → List (Mb ByteArray)} (h : Cl t ls) {asked : P2} {B : Nat} {D todo : List P2} (hT : Todo t ls asked B D todo todo.length) : Rel t ls D ∧ asked ∈ D := by
 have hall : ∀ p ∈ todo, p ∈ D := fun p hp => by
  obtain ⟨i, hi, rfl⟩ := List.getElem_of_mem hp
  exact hT.done i hi _ (List.getElem?_eq_getElem hi)
 refine ⟨⟨fun p hp => hT.have' p (hT.from' p hp), fun p hp hpre q hq => hall q (hT.more' p hp ?_ q hq)⟩, hall _ (List.mem_of_getElem? hT.first)⟩
 refine List.all_eq_true.2 fun q hq => ?_
 exact (pre_closed t q ((h.pre hpre).2.2 q hq)).1
theorem Todo.start {t : List C} {ls : ByteArray → List (Mb ByteArray)} {asked : P2} {B : Nat} (h : both t asked = true) : Todo t ls asked B [] [asked] 0 :=
 ⟨rfl, fun p hp => by simp at hp; subst hp; exact h, fun i hi => by omega, fun p hp => (by cases hp), fun p hp => (by cases hp), by simp⟩
theorem Todo.skip {t : List C} {ls : ByteArray → List (Mb ByteArray)} {asked : P2} {B : Nat} {D todo : List P2} {i : Nat} (h : Todo t ls asked B D todo i) {p : P2} (hp : todo[i]? = some p) (hd : p ∈ D) : Todo t ls asked B D todo (i + 1) :=
 ⟨h.first, h.have', fun k hk q hq => by
   by_cases e : k = i
   ·subst e
    rw [hp] at hq
    injection hq with hq
    exact hq ▸ hd
   ·exact h.done k (by omega) q hq, h.from', h.more', h.len⟩
theorem Todo.put {t : List C} {ls : ByteArray → List (Mb ByteArray)} {asked : P2} {B : Nat} {D todo : List P2} {i : Nat} (h : Todo t ls asked B D todo i) {p : P2} (hp : todo[i]? = some p) (hB : (need ls p).length ≤ B) :
  Todo t ls asked B (D ++ [p]) (if (need ls p).all (both t) then todo ++ need ls p else todo) (i + 1) := by
 have hmem : ∀ q, q ∈ todo → q ∈ (if (need ls p).all (both t) then todo ++ need ls p else todo) := fun q hq => by
  split
  ·exact List.mem_append.2 (.inl hq)
  ·exact hq
 have hlt : i < todo.length := (List.getElem?_eq_some_iff.1 hp).1
 have hget : ∀ k, k < todo.length → (if (need ls p).all (both t) then todo ++ need ls p else todo)[k]? = todo[k]? := fun k hk => by
  split
  ·rw [List.getElem?_append_left hk]
  ·rfl
 refine ⟨?_, ?_, ?_, ?_, ?_, ?_⟩
 ·rw [hget 0 (by omega)]; exact h.first
 ·intro q hq
  by_cases ha : (need ls p).all (both t) = true
  ·rw [if_pos ha] at hq
   rcases List.mem_append.1 hq with hq | hq
   ·exact h.have' q hq
   ·exact List.all_eq_true.1 ha q hq
  ·rw [if_neg ha] at hq
   exact h.have' q hq
 ·intro k hk q hq
  rw [hget k (by omega)] at hq
  by_cases e : k = i
  ·subst e
   rw [hp] at hq
   injection hq with hq
   exact List.mem_append.2 (.inr (by simp [hq]))
  ·exact List.mem_append.2 (.inl (h.done k (by omega) q hq))
 ·intro q hq
  rcases List.mem_append.1 hq with hq | hq
  ·exact hmem q (h.from' q hq)
  ·simp at hq
   subst hq
   exact hmem q (List.mem_of_getElem? hp)
 ·intro q hq ha r hr
  rcases List.mem_append.1 hq with hq | hq
  ·exact hmem r (h.more' q hq ha r hr)
  ·simp at hq
   subst hq
   rw [if_pos ha]
   exact List.mem_append.2 (.inr hr)
 ·have := h.len
  rw [List.length_append, Nat.mul_add]
  split
  ·rw [List.length_append]; simp; omega
  ·simp; omega
theorem mem_zipT {l u : List ByteArray} {q : P2} : q ∈ zipT l u ↔ (∃ i : Nat, l[i]? = some q.1 ∧ u[i]? = some q.2) ∧ alw q = false := by
 unfold zipT
 rw [List.mem_filter]
 have : q ∈ l.zip u ↔ ∃ i : Nat, l[i]? = some q.1 ∧ u[i]? = some q.2 := by
  rw [List.mem_iff_getElem?]
  constructor
  ·rintro ⟨i, hi⟩
   rw [List.getElem?_zip_eq_some] at hi
   exact ⟨i, hi⟩
  ·rintro ⟨i, hi⟩
   exact ⟨i, by rw [List.getElem?_zip_eq_some]; exact hi⟩
 rw [this]
 simp
theorem mbs_names (t : List C) (c : ByteArray) : (mbs t c).map Mb.name = (members t c).map (·.1) := by
 unfold mbs members
 simp [List.map_append, List.map_map, Function.comp_def, mbF, mbM]
theorem mbs_told (t : List C) (c : ByteArray) : (mbs t c).map (fun x => (x.name, x.ar)) = members t c := by
 unfold mbs members
 simp only [List.map_append, List.map_map]
 rfl
theorem mbs_tl (t : List C) (c : ByteArray) : ∀ x ∈ mbs t c, TLp x := by
 intro x hx
 unfold mbs at hx
 rcases List.mem_append.1 hx with hx | hx
 ·obtain ⟨f, _, rfl⟩ := List.mem_map.1 hx
  rfl
 ·obtain ⟨m, _, rfl⟩ := List.mem_map.1 hx
  unfold TLp mbM
  simp
  omega
theorem mbs_unique {t : List C} (hv : Valid t) {c : ByteArray} (hc : isC t c = true) {x y : Mb ByteArray} (hx : x ∈ mbs t c) (hy : y ∈ mbs t c) (e : x.name = y.name) : x = y := by
 obtain ⟨i, hi, rfl⟩ := isC_at hc
 have := (hv.good hi).names
 rw [← mbs_names] at this
 exact nodup_eq Mb.name this hx hy e
theorem pre_both {t : List C} {p : P2} (h : Pre t p) : both t p = true := (pre_closed t p h).1
theorem both_iff {t : List C} {p : P2} : both t p = true ↔ isC t p.1 = true ∧ isC t p.2 = true := by unfold both; simp
theorem tl_same {x m : Mb ByteArray} (hx : TLp x) (hm : TLp m) (e : x.ar = m.ar) : x.types.length = m.types.length := by
 unfold TLp at hx hm
 rw [hx, hm, e]
theorem pcs_iff {t : List C} {p : P2} : pcs t p = true ↔ alw p = true ∨ Pre t p := by
 unfold pcs
 rw [Bool.or_eq_true, prec_iff]
end Go.Proofs.YtjdkegfckkbpeaaGreatDoor.Tab
