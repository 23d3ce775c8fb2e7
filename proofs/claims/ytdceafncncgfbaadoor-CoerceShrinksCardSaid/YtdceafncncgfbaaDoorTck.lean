/- Words, in plain words: which bytes are letters and of which kind, which texts are reserved, which are base types with which tags, which are names, class names and types; and the fields of a text, one byte after another. Tables of classes, in plain words: what lies where, a class's line, its fields, methods and members, and which fault a table has. Which fault a table has, in plain words: class by class, field by field, method by method. -/
import Derived.Test.YtdceafncncgfbaaDoorRows
set_option linter.unusedSimpArgs false
set_option linter.unusedVariables false
namespace Go.Proofs.YtdceafncncgfbaaDoor.Wrd

/-- The reserved words, in their order; the base types, in the order of their tags. -/
def ws : List ByteArray := [⟨#[99, 108, 97, 115, 115]⟩, ⟨#[100, 101, 102]⟩, ⟨#[118, 97, 114]⟩, ⟨#[109, 97, 105, 110]⟩, ⟨#[108, 101, 116]⟩, ⟨#[105, 102]⟩, ⟨#[101, 108, 115, 101]⟩, ⟨#[119, 104, 105, 108, 101]⟩, ⟨#[110, 101, 119]⟩, ⟨#[110, 111, 110, 101]⟩, ⟨#[116, 104, 105, 115]⟩, ⟨#[115, 117, 112, 101, 114]⟩, ⟨#[114, 101, 97, 100]⟩, ⟨#[112, 114, 105, 110, 116]⟩, ⟨#[116, 114, 117, 101]⟩, ⟨#[102, 97, 108, 115, 101]⟩, ⟨#[110, 97, 110]⟩, ⟨#[105, 110, 102]⟩, ⟨#[105, 110, 116]⟩, ⟨#[114, 101, 97, 108]⟩, ⟨#[98, 111, 111, 108]⟩, ⟨#[115, 116, 114]⟩, ⟨#[117, 110, 105, 116]⟩, ⟨#[108, 101, 110]⟩]
def bs : List ByteArray := [⟨#[105, 110, 116]⟩, ⟨#[114, 101, 97, 108]⟩, ⟨#[98, 111, 111, 108]⟩, ⟨#[115, 116, 114]⟩, ⟨#[117, 110, 105, 116]⟩]

/-- The reserved words as one text, blanks between. -/
def rs : ByteArray := ⟨#[99, 108, 97, 115, 115, 32, 100, 101, 102, 32, 118, 97, 114, 32, 109, 97, 105, 110, 32, 108, 101, 116, 32, 105, 102, 32, 101, 108, 115, 101, 32, 119, 104, 105, 108, 101, 32, 110, 101, 119, 32, 110, 111, 110, 101, 32, 116, 104, 105, 115, 32, 115, 117, 112, 101, 114, 32, 114, 101, 97, 100, 32, 112, 114, 105, 110, 116, 32, 116, 114, 117, 101, 32, 102, 97, 108, 115, 101, 32, 110, 97, 110, 32, 105, 110, 102, 32, 105, 110, 116, 32, 114, 101, 97, 108, 32, 98, 111, 111, 108, 32, 115, 116, 114, 32, 117, 110, 105, 116, 32, 108, 101, 110]⟩

/-- Blanks among ASCII. -/
def spB (c : UInt8) : Bool := c == 32 || (9 ≤ c && c ≤ 13)

/-- The kind of a letter: 0 small, 1 capital, 2 a digit, 3 none. -/
def smB (n : Nat) : Bool := decide (97 ≤ n) && decide (n ≤ 122)
def caB (n : Nat) : Bool := decide (65 ≤ n) && decide (n ≤ 90)
def diB (n : Nat) : Bool := decide (48 ≤ n) && decide (n ≤ 57)
def kd (c : UInt8) : Nat := if smB c.toNat then 0 else if caB c.toNat then 1 else if diB c.toNat then 2 else 3

/-- Has a text the length and the letters of a name, the first of them of kind k? -/
def spelt (s : ByteArray) (k : Nat) : Bool := decide (1 ≤ s.size) && decide (s.size ≤ 20) && s.data.toList.all (fun c => kd c != 3) && (kd (s.data.toList.headD 0) == k)

def has (l : List ByteArray) (s : ByteArray) : Bool := l.any fun x => decide (x = s)
def key (s : ByteArray) : Bool := has ws s
def base (s : ByteArray) : Bool := has bs s
def tagF : List ByteArray → Nat → ByteArray → Nat
  | [], _, _ => 0
  | b :: r, k, s => if b = s then k else tagF r (k + 1) s
def tag (s : ByteArray) : Nat := tagF bs 1 s
def tagE (s : ByteArray) : Int := if base s then 0 else 7
def ofF : List ByteArray → Int → Int → ByteArray × Int
  | [], _, _ => (⟨#[]⟩, 7)
  | b :: r, k, n => if k = n then (b, 0) else ofF r (k + 1) n
def ofT (n : Int) : ByteArray := (ofF bs 1 n).1
def ofE (n : Int) : Int := (ofF bs 1 n).2
def name (s : ByteArray) : Bool := spelt s 0 && !key s
def cls (s : ByteArray) : Bool := spelt s 1
def kind (s : ByteArray) : Int := if base s then 1 else if s = ⟨#[63]⟩ then 2 else if cls s then 3 else 0
def typ (s : ByteArray) : Bool := decide (kind s ≠ 0)

theorem mem_at {s : ByteArray} {c : UInt8} (h : c ∈ s.data.toList) : ∃ k, ∃ hk : k < s.size, s[k] = c := by
  obtain ⟨k, hk, e⟩ := List.getElem_of_mem h
  exact ⟨k, by simpa using hk, e⟩
theorem at_mem {s : ByteArray} {k : Nat} (hk : k < s.size) : s[k] ∈ s.data.toList := by
  have : s[k] = s.data.toList[k]'(by simpa using hk) := rfl
  rw [this]; exact List.getElem_mem _
theorem headD_at : ∀ (l : List UInt8) (h : 0 < l.length), l.headD 0 = l[0]
  | a :: r, _ => rfl
theorem head_at {s : ByteArray} (hk : 0 < s.size) : s.data.toList.headD 0 = s[0] :=
  headD_at s.data.toList (by simpa using hk)
theorem spelt_len {s : ByteArray} {f : Nat} (h : s.size < 1 ∨ 20 < s.size) : spelt s f = false := by
  unfold spelt
  rcases h with h | h
  · have : decide (1 ≤ s.size) = false := decide_eq_false (by omega)
    rw [this]; rfl
  · have : decide (s.size ≤ 20) = false := decide_eq_false (by omega)
    rw [this]; simp
theorem spelt_at {s : ByteArray} {f k : Nat} (hk : k < s.size) (h : kd s[k] = 3) : spelt s f = false := by
  have : s.data.toList.all (fun c => kd c != 3) = false := by
    rw [List.all_eq_false]
    exact ⟨s[k], at_mem hk, by rw [h]; decide⟩
  unfold spelt
  rw [this]; simp
theorem spelt_first {s : ByteArray} {f : Nat} (hk : 0 < s.size) (h : kd s[0] ≠ f) : spelt s f = false := by
  unfold spelt
  rw [head_at hk]
  have : (kd s[0] == f) = false := by simpa using h
  rw [this]; simp
theorem spelt_all {s : ByteArray} {f : Nat} (h1 : 0 < s.size) (h2 : s.size ≤ 20) (ha : ∀ k (hk : k < s.size), kd s[k] ≠ 3) (h0 : kd s[0] = f) : spelt s f = true := by
  unfold spelt
  rw [head_at h1, h0]
  have e1 : decide (1 ≤ s.size) = true := decide_eq_true h1
  have e2 : decide (s.size ≤ 20) = true := decide_eq_true h2
  have e3 : s.data.toList.all (fun c => kd c != 3) = true := by
    rw [List.all_eq_true]
    intro c hc
    obtain ⟨k, hk, rfl⟩ := mem_at hc
    simpa using ha k hk
  rw [e1, e2, e3]; simp

/-! ### Fields -/
/-- Behind the first k bytes: where a field began, and the fields so far. -/
def st (s : ByteArray) : Nat → Option Nat × List ByteArray
  | 0 => (none, [])
  | k + 1 => match st s k with
    | (none, pre) => if spB (s.data.toList.getD k 0) then (none, pre) else (some k, pre)
    | (some b, pre) => if spB (s.data.toList.getD k 0) then (none, pre ++ [s.extract b k]) else (some b, pre)
def flds (s : ByteArray) : List ByteArray := match st s s.size with
  | (none, pre) => pre
  | (some b, pre) => pre ++ [s.extract b s.size]

theorem st_lt (s : ByteArray) : ∀ (k b : Nat) (pre : List ByteArray), st s k = (some b, pre) → b < k
  | 0, _, _, h => by cases h
  | k + 1, b, pre, h => by
    unfold st at h
    split at h
    · split at h
      · cases h
      · cases h; omega
    · rename_i b' pre' h'
      have := st_lt s k b' pre' h'
      split at h
      · cases h
      · cases h; omega

theorem st_next (s : ByteArray) (k : Nat) : (st s k).2 <+: (st s (k + 1)).2 := by
  conv => rhs; unfold st
  split
  · rename_i h; rw [h]; split <;> exact List.prefix_refl _
  · rename_i h; rw [h]; split
    · exact List.prefix_append _ _
    · exact List.prefix_refl _
theorem st_mono (s : ByteArray) (k : Nat) : ∀ d, (st s k).2 <+: (st s (k + d)).2
  | 0 => List.prefix_refl _
  | d + 1 => (st_mono s k d).trans (st_next s (k + d))
theorem st_flds (s : ByteArray) {k : Nat} (h : k ≤ s.size) : (st s k).2 <+: flds s := by
  have h1 := st_mono s k (s.size - k)
  rw [show k + (s.size - k) = s.size by omega] at h1
  refine h1.trans ?_
  unfold flds
  split
  · rename_i h; rw [h]; exact List.prefix_refl _
  · rename_i h; rw [h]; exact List.prefix_append _ _

theorem has_iff {l : List ByteArray} {s : ByteArray} : has l s = true ↔ s ∈ l := by
  unfold has; rw [List.any_eq_true]
  constructor
  · rintro ⟨x, hx, h⟩; rw [← of_decide_eq_true h]; exact hx
  · intro h; exact ⟨s, h, decide_eq_true rfl⟩
theorem has_no {l : List ByteArray} {s : ByteArray} (h : s ∉ l) : has l s = false := by
  cases e : has l s with
  | false => rfl
  | true => exact absurd (has_iff.1 e) h

theorem flds_rs : flds rs = ws := by kernel_rfl
theorem ascii_rs : ∀ c ∈ rs.data.toList, c.toNat < 128 := by decide +kernel
theorem size_rs : rs.size ≤ 9223372036854775807 := by decide +kernel
theorem len_ws : ws.length = 24 := by decide +kernel

end Go.Proofs.YtdceafncncgfbaaDoor.Wrd

namespace Go.Proofs.YtdceafncncgfbaaDoor.Tab

structure V where
  name : ByteArray
  typ : ByteArray
structure M where
  name : ByteArray
  params : List V
  res : ByteArray
structure C where
  name : ByteArray
  super : ByteArray
  fields : List V
  methods : List M
instance : Inhabited C := ⟨⟨ByteArray.empty, ByteArray.empty, [], []⟩⟩

/-- The place of the first thing with that name. -/
def ix {α : Type} (nm : α → ByteArray) (l : List α) (s : ByteArray) : Option Nat := l.findIdx? fun x => decide (nm x = s)
def num : Option Nat → Int
  | some k => k
  | none => 0

theorem ix_some {α : Type} {nm : α → ByteArray} {l : List α} {s : ByteArray} {k : Nat} {x : α} (hk : l[k]? = some x) (hx : nm x = s) (h : ∀ y ∈ l.take k, ¬ nm y = s) : ix nm l s = some k := by
  obtain ⟨hlt, rfl⟩ := List.getElem?_eq_some_iff.1 hk
  unfold ix
  rw [List.findIdx?_eq_some_iff_getElem]
  refine ⟨hlt, by simpa using hx, fun j hj => ?_⟩
  have := h l[j] (List.mem_take_iff_getElem.2 ⟨j, by omega, rfl⟩)
  simpa using this
theorem ix_none {α : Type} {nm : α → ByteArray} {l : List α} {s : ByteArray} (h : ∀ y ∈ l, ¬ nm y = s) : ix nm l s = none := by
  unfold ix
  rw [List.findIdx?_eq_none_iff]
  intro x hx
  simpa using h x hx
theorem ix_lt {α : Type} {nm : α → ByteArray} {l : List α} {s : ByteArray} {k : Nat} (h : ix nm l s = some k) : ∃ hk : k < l.length, nm l[k] = s := by
  unfold ix at h
  rw [List.findIdx?_eq_some_iff_getElem] at h
  obtain ⟨hk, h1, _⟩ := h
  exact ⟨hk, by simpa using h1⟩
theorem ix_isNone {α : Type} {nm : α → ByteArray} {l : List α} {s : ByteArray} : ix nm l s = none ↔ ∀ y ∈ l, ¬ nm y = s := by
  unfold ix
  rw [List.findIdx?_eq_none_iff]
  simp

/-- The place of a class. -/
def at' (t : List C) (s : ByteArray) : Option Nat := ix C.name t s
def nth (t : List C) (i : Nat) : C := t.getD i default

theorem nth_of {t : List C} {i : Nat} {c : C} (h : t[i]? = some c) : nth t i = c := by
  unfold nth
  rw [List.getD_eq_getElem?_getD, h]; rfl
theorem of_nth {t : List C} {i : Nat} (h : i < t.length) : t[i]? = some (nth t i) := by
  unfold nth
  rw [List.getD_eq_getElem?_getD, List.getElem?_eq_getElem h]; rfl

/-- The line, from a name on, where the classes at some places have been passed. -/
def lineF (t : List C) : Nat → List Nat → ByteArray → List Nat
  | 0, _, _ => []
  | n + 1, ps, s => match at' t s with
    | none => []
    | some i => if i ∈ ps then [] else i :: lineF t n (ps ++ [i]) (nth t i).super
def line (t : List C) (s : ByteArray) : List Nat := lineF t (t.length + 1) [] s

theorem lineF_none {t : List C} {n : Nat} {ps : List Nat} {s : ByteArray} (h : at' t s = none) : lineF t n ps s = [] := by
  cases n with
  | zero => rfl
  | succ n => unfold lineF; rw [h]
theorem lineF_passed {t : List C} {n : Nat} {ps : List Nat} {s : ByteArray} {i : Nat} (h : at' t s = some i) (hp : i ∈ ps) : lineF t n ps s = [] := by
  cases n with
  | zero => rfl
  | succ n => unfold lineF; rw [h]; exact if_pos hp
theorem lineF_goes {t : List C} {n : Nat} {ps : List Nat} {s : ByteArray} {i : Nat} (h : at' t s = some i) (hp : i ∉ ps) : lineF t (n + 1) ps s = i :: lineF t n (ps ++ [i]) (nth t i).super := by
  conv => lhs; unfold lineF
  rw [h]; exact if_neg hp

theorem lineF_lt (t : List C) : ∀ n ps s i, i ∈ lineF t n ps s → i < t.length
  | 0, _, _, _, h => by cases h
  | n + 1, ps, s, i, h => by
    unfold lineF at h
    split at h
    · cases h
    · rename_i k hk
      split at h
      · cases h
      · rcases List.mem_cons.1 h with rfl | h
        · exact (ix_lt hk).1
        · exact lineF_lt t n _ _ i h
theorem line_lt {t : List C} {s : ByteArray} {i : Nat} (h : i ∈ line t s) : i < t.length := lineF_lt t _ _ _ i h

/-- Places that differ are no more than there are. -/
theorem places_le : ∀ (n : Nat) (ps : List Nat), ps.Nodup → (∀ i ∈ ps, i < n) → ps.length ≤ n
  | 0, ps, _, hl => by
    cases ps with
    | nil => exact Nat.le_refl _
    | cons a r => exact absurd (hl a (List.mem_cons_self ..)) (by omega)
  | n + 1, ps, h, hl => by
    by_cases hn : n ∈ ps
    · have h1 := places_le n (ps.erase n) (h.erase n) fun i hi => by
        have := (h.mem_erase_iff).1 hi
        have := hl i this.2
        omega
      rw [List.length_erase_of_mem hn] at h1
      omega
    · have h1 := places_le n ps h fun i hi => by
        have := hl i hi
        have : i ≠ n := fun e => hn (e ▸ hi)
        omega
      omega

theorem lineF_len (t : List C) : ∀ n ps s, (lineF t n ps s).length ≤ n
  | 0, _, _ => Nat.le_refl _
  | n + 1, ps, s => by
    unfold lineF
    split
    · exact Nat.zero_le _
    · split
      · exact Nat.zero_le _
      · exact Nat.succ_le_succ (lineF_len t n _ _)
theorem line_len (t : List C) (s : ByteArray) : (line t s).length ≤ t.length + 1 := lineF_len t _ _ _

def supers (t : List C) (s : ByteArray) : List ByteArray := (line t s).map fun i => (nth t i).name
def fields (t : List C) (s : ByteArray) : List V := (line t s).reverse.flatMap fun i => (nth t i).fields
def addM (l : List M) (m : M) : List M := match ix M.name l m.name with
  | some k => l.set k m
  | none => l ++ [m]
def methods (t : List C) (s : ByteArray) : List M := ((line t s).reverse.flatMap fun i => (nth t i).methods).foldl addM []
def fieldOf (nm : ByteArray) (c : C) : Option ByteArray := (ix V.name c.fields nm).bind fun k => (c.fields[k]?).map (·.typ)
def field (t : List C) (s nm : ByteArray) : Option ByteArray := (line t s).foldl (fun a i => (fieldOf nm (nth t i)).or a) none
def methodOf (nm : ByteArray) (c : C) : Option M := (ix M.name c.methods nm).bind fun k => c.methods[k]?
def method (t : List C) (s nm : ByteArray) : Option (M × ByteArray) := (line t s).findSome? fun i => (methodOf nm (nth t i)).map fun m => (m, (nth t i).name)
def members (t : List C) (s : ByteArray) : List (ByteArray × Int) := (fields t s).map (fun x => (x.name, (-1 : Int))) ++ (methods t s).map fun m => (m.name, (m.params.length : Int))
def lastOf (nm : ByteArray) (l : List M) : Option M := l.reverse.find? fun m => decide (m.name = nm)
def arity (t : List C) (s nm : ByteArray) : Option Int := if (field t s nm).isSome then some (-1) else (line t s).findSome? fun i => (lastOf nm (nth t i).methods).map fun m => (m.params.length : Int)

end Go.Proofs.YtdceafncncgfbaaDoor.Tab

namespace Go.Proofs.YtdceafncncgfbaaDoor.Tab

def chkType (t : List C) (s : ByteArray) : Int := if Wrd.kind s = 0 then 5 else if Wrd.kind s = 3 then (if (ix C.name t s).isSome then 0 else 6) else 0
def chkVar (t : List C) (x : V) : Int := if Wrd.name x.name then chkType t x.typ else 5
def chkPs (t : List C) : List V → List V → Int
  | _, [] => 0
  | pre, p :: r => if chkVar t p = 0 then (if (ix V.name pre p.name).isSome then 8 else chkPs t (pre ++ [p]) r) else chkVar t p
def chkSig (t : List C) (m : M) : Int := if Wrd.name m.name then (if chkPs t [] m.params = 0 then chkType t m.res else chkPs t [] m.params) else 5
def sameTys (a b : List V) : Bool := decide (a.length = b.length) && (a.zip b).all fun x => decide (x.1.typ = x.2.typ)
def sameSig (a b : M) : Bool := decide (a.res = b.res) && sameTys a.params b.params

def chkHead (t : List C) (i : Nat) : Int :=
  if Wrd.cls (nth t i).name then (if (ix C.name (t.take i) (nth t i).name).isSome then 8 else if 20 < (nth t i).fields.length then 12 else if 20 < (nth t i).methods.length then 12 else
    if (nth t i).methods.any (fun m => decide (8 < m.params.length)) then 12 else 0) else 5
def chkSuper (t : List C) (i : Nat) : Int :=
  if (nth t i).super = ⟨#[]⟩ then 0 else if (ix C.name t (nth t i).super).isSome then (if (line t (nth t i).super).any (fun j => decide ((nth t j).name = (nth t i).name)) then 9 else 0) else 6

/-- What a class has by a name: a method, one's own or not; or a field. -/
abbrev Held := ByteArray → Option (Option M × Bool)
def Held.put (h : Held) (s : ByteArray) (x : Option M × Bool) : Held := fun y => if y = s then some x else h y
def inhC (h : Held) (c : C) : Held := c.methods.foldl (fun h m => if (h m.name).isSome then h else h.put m.name (some m, false)) (c.fields.foldl (fun h f => h.put f.name (none, false)) h)
def inh (t : List C) (s : ByteArray) : Held := (line t s).foldl (fun h i => inhC h (nth t i)) fun _ => none
def chkFs (t : List C) : Held → List V → Int × Held
  | h, [] => (0, h)
  | h, f :: r => if chkVar t f = 0 then (if (h f.name).isSome then (8, h) else chkFs t (h.put f.name (none, false)) r) else (chkVar t f, h)
def chkM1 (h : Held) (m : M) : Int := match h m.name with
  | none => 0
  | some (o, own) => if own then 8 else match o with
    | none => 8
    | some x => if sameSig x m then 0 else 10
def chkMs (t : List C) : Held → List M → Int
  | _, [] => 0
  | h, m :: r => if chkSig t m = 0 then (if chkM1 h m = 0 then chkMs t (h.put m.name (some m, true)) r else chkM1 h m) else chkSig t m
def chkMembers (t : List C) (i : Nat) : Int :=
  if (chkFs t (inh t (nth t i).super) (nth t i).fields).1 = 0 then chkMs t (chkFs t (inh t (nth t i).super) (nth t i).fields).2 (nth t i).methods else (chkFs t (inh t (nth t i).super) (nth t i).fields).1

/-- The first fault of a round. -/
def chkRound (f : Nat → Int) : Nat → Nat → Int × Int
  | _, 0 => (0, 0)
  | i, n + 1 => if f i = 0 then chkRound f (i + 1) n else (f i, i)
def check (t : List C) : Int × Int :=
  if 40 < t.length then (12, 40) else
  if (chkRound (chkHead t) 0 t.length).1 = 0 then
    (if (chkRound (chkSuper t) 0 t.length).1 = 0 then chkRound (chkMembers t) 0 t.length else chkRound (chkSuper t) 0 t.length)
  else chkRound (chkHead t) 0 t.length

theorem kind_cases (s : ByteArray) : Wrd.kind s = 0 ∨ Wrd.kind s = 1 ∨ Wrd.kind s = 2 ∨ Wrd.kind s = 3 := by
  unfold Wrd.kind
  split
  · exact .inr (.inl rfl)
  · split
    · exact .inr (.inr (.inl rfl))
    · split
      · exact .inr (.inr (.inr rfl))
      · exact .inl rfl
end Go.Proofs.YtdceafncncgfbaaDoor.Tab
