/- Which fault a table has, in plain words: class by class, field by field, method by method. -/
import Derived.Test.YtnjgagbblkjjeaaGreatDoorTbp
set_option linter.unusedSimpArgs false
set_option linter.unusedVariables false
namespace Go.Proofs.YtnjgagbblkjjeaaGreatDoor.Tab

def chkType (t : List C) (s : ByteArray) : Int := if Wrd.kind s = 0 then 5 else if Wrd.kind s = 3 then (if (ix C.name t s).isSome then 0 else 6) else 0
def chkVar (t : List C) (x : V) : Int := if Wrd.name x.name then chkType t x.typ else 5
def chkPs (t : List C) : List V → List V → Int
  | _, [] => 0
  | pre, p :: r => if chkVar t p = 0 then (if (ix V.name pre p.name).isSome then 8 else chkPs t (pre ++ [p]) r) else chkVar t p
def chkSig (t : List C) (m : M) : Int := if Wrd.name m.name then (if chkPs t [] m.params = 0 then chkType t m.res else chkPs t [] m.params) else 5
def sameTys (a b : List V) : Bool := decide (a.length = b.length) && (a.zip b).all fun x => decide (x.1.typ = x.2.typ)
def sameSig (a b : M) : Bool := decide (a.res = b.res) && sameTys a.params b.params

def chkHead (t : List C) (i : Nat) : Int :=
  if Wrd.cls (nth t i).name then (if (ix C.name (t.take i) (nth t i).name).isSome then 8 else if 20 < (nth t i).fields.length then 12 else if 20 < (nth t i).methods.length then 12 else
    if (nth t i).methods.any (fun m => decide (8 < m.params.length)) then 12 else 0) else 5
def chkSuper (t : List C) (i : Nat) : Int :=
  if (nth t i).super = ⟨#[]⟩ then 0 else if (ix C.name t (nth t i).super).isSome then (if (line t (nth t i).super).any (fun j => decide ((nth t j).name = (nth t i).name)) then 9 else 0) else 6

/-- What a class has by a name: a method, one's own or not; or a field. -/
abbrev Held := ByteArray → Option (Option M × Bool)
def Held.put (h : Held) (s : ByteArray) (x : Option M × Bool) : Held := fun y => if y = s then some x else h y
def inhC (h : Held) (c : C) : Held := c.methods.foldl (fun h m => if (h m.name).isSome then h else h.put m.name (some m, false)) (c.fields.foldl (fun h f => h.put f.name (none, false)) h)
def inh (t : List C) (s : ByteArray) : Held := (line t s).foldl (fun h i => inhC h (nth t i)) fun _ => none
def chkFs (t : List C) : Held → List V → Int × Held
  | h, [] => (0, h)
  | h, f :: r => if chkVar t f = 0 then (if (h f.name).isSome then (8, h) else chkFs t (h.put f.name (none, false)) r) else (chkVar t f, h)
def chkM1 (h : Held) (m : M) : Int := match h m.name with
  | none => 0
  | some (o, own) => if own then 8 else match o with
    | none => 8
    | some x => if sameSig x m then 0 else 10
def chkMs (t : List C) : Held → List M → Int
  | _, [] => 0
  | h, m :: r => if chkSig t m = 0 then (if chkM1 h m = 0 then chkMs t (h.put m.name (some m, true)) r else chkM1 h m) else chkSig t m
def chkMembers (t : List C) (i : Nat) : Int :=
  if (chkFs t (inh t (nth t i).super) (nth t i).fields).1 = 0 then chkMs t (chkFs t (inh t (nth t i).super) (nth t i).fields).2 (nth t i).methods else (chkFs t (inh t (nth t i).super) (nth t i).fields).1

/-- The first fault of a round. -/
def chkRound (f : Nat → Int) : Nat → Nat → Int × Int
  | _, 0 => (0, 0)
  | i, n + 1 => if f i = 0 then chkRound f (i + 1) n else (f i, i)
def check (t : List C) : Int × Int :=
  if 40 < t.length then (12, 40) else
  if (chkRound (chkHead t) 0 t.length).1 = 0 then
    (if (chkRound (chkSuper t) 0 t.length).1 = 0 then chkRound (chkMembers t) 0 t.length else chkRound (chkSuper t) 0 t.length)
  else chkRound (chkHead t) 0 t.length

theorem kind_cases (s : ByteArray) : Wrd.kind s = 0 ∨ Wrd.kind s = 1 ∨ Wrd.kind s = 2 ∨ Wrd.kind s = 3 := by
  unfold Wrd.kind
  split
  · exact .inr (.inl rfl)
  · split
    · exact .inr (.inr (.inl rfl))
    · split
      · exact .inr (.inr (.inr rfl))
      · exact .inl rfl
end Go.Proofs.YtnjgagbblkjjeaaGreatDoor.Tab
