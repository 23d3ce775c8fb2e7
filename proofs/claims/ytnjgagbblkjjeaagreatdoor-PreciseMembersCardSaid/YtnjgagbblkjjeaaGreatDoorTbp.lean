/- Tables of classes, in plain words: what lies where, a class's line, its fields, methods and members, and which fault a table has. -/
import Derived.Test.YtnjgagbblkjjeaaGreatDoorWrd
set_option linter.unusedSimpArgs false
set_option linter.unusedVariables false
namespace Go.Proofs.YtnjgagbblkjjeaaGreatDoor.Tab

structure V where
  name : ByteArray
  typ : ByteArray
structure M where
  name : ByteArray
  params : List V
  res : ByteArray
structure C where
  name : ByteArray
  super : ByteArray
  fields : List V
  methods : List M
instance : Inhabited C := ⟨⟨ByteArray.empty, ByteArray.empty, [], []⟩⟩

/-- The place of the first thing with that name. -/
def ix {α : Type} (nm : α → ByteArray) (l : List α) (s : ByteArray) : Option Nat := l.findIdx? fun x => decide (nm x = s)
def num : Option Nat → Int
  | some k => k
  | none => 0

theorem ix_some {α : Type} {nm : α → ByteArray} {l : List α} {s : ByteArray} {k : Nat} {x : α} (hk : l[k]? = some x) (hx : nm x = s) (h : ∀ y ∈ l.take k, ¬ nm y = s) : ix nm l s = some k := by
  obtain ⟨hlt, rfl⟩ := List.getElem?_eq_some_iff.1 hk
  unfold ix
  rw [List.findIdx?_eq_some_iff_getElem]
  refine ⟨hlt, by simpa using hx, fun j hj => ?_⟩
  have := h l[j] (List.mem_take_iff_getElem.2 ⟨j, by omega, rfl⟩)
  simpa using this
theorem ix_none {α : Type} {nm : α → ByteArray} {l : List α} {s : ByteArray} (h : ∀ y ∈ l, ¬ nm y = s) : ix nm l s = none := by
  unfold ix
  rw [List.findIdx?_eq_none_iff]
  intro x hx
  simpa using h x hx
theorem ix_lt {α : Type} {nm : α → ByteArray} {l : List α} {s : ByteArray} {k : Nat} (h : ix nm l s = some k) : ∃ hk : k < l.length, nm l[k] = s := by
  unfold ix at h
  rw [List.findIdx?_eq_some_iff_getElem] at h
  obtain ⟨hk, h1, _⟩ := h
  exact ⟨hk, by simpa using h1⟩
theorem ix_isNone {α : Type} {nm : α → ByteArray} {l : List α} {s : ByteArray} : ix nm l s = none ↔ ∀ y ∈ l, ¬ nm y = s := by
  unfold ix
  rw [List.findIdx?_eq_none_iff]
  simp

/-- The place of a class. -/
def at' (t : List C) (s : ByteArray) : Option Nat := ix C.name t s
def nth (t : List C) (i : Nat) : C := t.getD i default

theorem nth_of {t : List C} {i : Nat} {c : C} (h : t[i]? = some c) : nth t i = c := by
  unfold nth
  rw [List.getD_eq_getElem?_getD, h]; rfl
theorem of_nth {t : List C} {i : Nat} (h : i < t.length) : t[i]? = some (nth t i) := by
  unfold nth
  rw [List.getD_eq_getElem?_getD, List.getElem?_eq_getElem h]; rfl

/-- The line, from a name on, where the classes at some places have been passed. -/
def lineF (t : List C) : Nat → List Nat → ByteArray → List Nat
  | 0, _, _ => []
  | n + 1, ps, s => match at' t s with
    | none => []
    | some i => if i ∈ ps then [] else i :: lineF t n (ps ++ [i]) (nth t i).super
def line (t : List C) (s : ByteArray) : List Nat := lineF t (t.length + 1) [] s

theorem lineF_none {t : List C} {n : Nat} {ps : List Nat} {s : ByteArray} (h : at' t s = none) : lineF t n ps s = [] := by
  cases n with
  | zero => rfl
  | succ n => unfold lineF; rw [h]
theorem lineF_passed {t : List C} {n : Nat} {ps : List Nat} {s : ByteArray} {i : Nat} (h : at' t s = some i) (hp : i ∈ ps) : lineF t n ps s = [] := by
  cases n with
  | zero => rfl
  | succ n => unfold lineF; rw [h]; exact if_pos hp
theorem lineF_goes {t : List C} {n : Nat} {ps : List Nat} {s : ByteArray} {i : Nat} (h : at' t s = some i) (hp : i ∉ ps) : lineF t (n + 1) ps s = i :: lineF t n (ps ++ [i]) (nth t i).super := by
  conv => lhs; unfold lineF
  rw [h]; exact if_neg hp

theorem lineF_lt (t : List C) : ∀ n ps s i, i ∈ lineF t n ps s → i < t.length
  | 0, _, _, _, h => by cases h
  | n + 1, ps, s, i, h => by
    unfold lineF at h
    split at h
    · cases h
    · rename_i k hk
      split at h
      · cases h
      · rcases List.mem_cons.1 h with rfl | h
        · exact (ix_lt hk).1
        · exact lineF_lt t n _ _ i h
theorem line_lt {t : List C} {s : ByteArray} {i : Nat} (h : i ∈ line t s) : i < t.length := lineF_lt t _ _ _ i h

/-- Places that differ are no more than there are. -/
theorem places_le : ∀ (n : Nat) (ps : List Nat), ps.Nodup → (∀ i ∈ ps, i < n) → ps.length ≤ n
  | 0, ps, _, hl => by
    cases ps with
    | nil => exact Nat.le_refl _
    | cons a r => exact absurd (hl a (List.mem_cons_self ..)) (by omega)
  | n + 1, ps, h, hl => by
    by_cases hn : n ∈ ps
    · have h1 := places_le n (ps.erase n) (h.erase n) fun i hi => by
        have := (h.mem_erase_iff).1 hi
        have := hl i this.2
        omega
      rw [List.length_erase_of_mem hn] at h1
      omega
    · have h1 := places_le n ps h fun i hi => by
        have := hl i hi
        have : i ≠ n := fun e => hn (e ▸ hi)
        omega
      omega

theorem lineF_len (t : List C) : ∀ n ps s, (lineF t n ps s).length ≤ n
  | 0, _, _ => Nat.le_refl _
  | n + 1, ps, s => by
    unfold lineF
    split
    · exact Nat.zero_le _
    · split
      · exact Nat.zero_le _
      · exact Nat.succ_le_succ (lineF_len t n _ _)
theorem line_len (t : List C) (s : ByteArray) : (line t s).length ≤ t.length + 1 := lineF_len t _ _ _

def supers (t : List C) (s : ByteArray) : List ByteArray := (line t s).map fun i => (nth t i).name
def fields (t : List C) (s : ByteArray) : List V := (line t s).reverse.flatMap fun i => (nth t i).fields
def addM (l : List M) (m : M) : List M := match ix M.name l m.name with
  | some k => l.set k m
  | none => l ++ [m]
def methods (t : List C) (s : ByteArray) : List M := ((line t s).reverse.flatMap fun i => (nth t i).methods).foldl addM []
def fieldOf (nm : ByteArray) (c : C) : Option ByteArray := (ix V.name c.fields nm).bind fun k => (c.fields[k]?).map (·.typ)
def field (t : List C) (s nm : ByteArray) : Option ByteArray := (line t s).foldl (fun a i => (fieldOf nm (nth t i)).or a) none
def methodOf (nm : ByteArray) (c : C) : Option M := (ix M.name c.methods nm).bind fun k => c.methods[k]?
def method (t : List C) (s nm : ByteArray) : Option (M × ByteArray) := (line t s).findSome? fun i => (methodOf nm (nth t i)).map fun m => (m, (nth t i).name)
def members (t : List C) (s : ByteArray) : List (ByteArray × Int) := (fields t s).map (fun x => (x.name, (-1 : Int))) ++ (methods t s).map fun m => (m.name, (m.params.length : Int))
def lastOf (nm : ByteArray) (l : List M) : Option M := l.reverse.find? fun m => decide (m.name = nm)
def arity (t : List C) (s nm : ByteArray) : Option Int := if (field t s nm).isSome then some (-1) else (line t s).findSome? fun i => (lastOf nm (nth t i).methods).map fun m => (m.params.length : Int)

end Go.Proofs.YtnjgagbblkjjeaaGreatDoor.Tab
