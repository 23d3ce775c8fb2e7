/- Operations on values, in plain words: which types an operation takes and what it results in; what values come to, or a trap; in the code's form and in the document's, which are the same. -/
import Derived.Test.YtcaailiijmjdlaaGreatDoorTck
import Derived.Test.YtcaailiijmjdlaaGreatDoorIpl
import Derived.Test.YtcaailiijmjdlaaGreatDoorFli
import Derived.Test.YtcaailiijmjdlaaGreatDoorDec
import Derived.Test.YtcaailiijmjdlaaGreatDoorHex
set_option linter.unusedSimpArgs false
set_option linter.unusedVariables false
namespace Go.Proofs.YtcaailiijmjdlaaGreatDoor.Zp

abbrev e0 : ByteArray := ⟨#[]⟩
abbrev tI : ByteArray := ⟨#[105, 110, 116]⟩
abbrev tR : ByteArray := ⟨#[114, 101, 97, 108]⟩
abbrev tB : ByteArray := ⟨#[98, 111, 111, 108]⟩
abbrev tS : ByteArray := ⟨#[115, 116, 114]⟩
abbrev dy : ByteArray := ⟨#[63]⟩
abbrev oOr : ByteArray := ⟨#[124, 124]⟩
abbrev oAnd : ByteArray := ⟨#[38, 38]⟩
abbrev oEq : ByteArray := ⟨#[61, 61]⟩
abbrev oNe : ByteArray := ⟨#[33, 61]⟩
abbrev oLt : ByteArray := ⟨#[60]⟩
abbrev oLe : ByteArray := ⟨#[60, 61]⟩
abbrev oAdd : ByteArray := ⟨#[43]⟩
abbrev oSub : ByteArray := ⟨#[45]⟩
abbrev oMul : ByteArray := ⟨#[42]⟩
abbrev oDiv : ByteArray := ⟨#[47]⟩
abbrev oMod : ByteArray := ⟨#[37]⟩
abbrev oNot : ByteArray := ⟨#[33]⟩
abbrev cLen : ByteArray := ⟨#[108, 101, 110]⟩
abbrev has := Wrd.has
theorem has_cons (x : ByteArray) (l : List ByteArray) (s : ByteArray) : Wrd.has (x :: l) s = (decide (x = s) || Wrd.has l s) := rfl
theorem has_nil (s : ByteArray) : Wrd.has [] s = false := rfl
theorem has_snoc (l : List ByteArray) (x s : ByteArray) : Wrd.has (l ++ [x]) s = (Wrd.has l s || decide (x = s)) := by
  unfold Wrd.has; simp

/-- What is told of types: the operands' type, the result's, whether it is dynamic, the error. -/
structure R where
  arg : ByteArray
  res : ByteArray
  dyn : Bool
  err : Int
abbrev bad (e : Int) : R := ⟨e0, e0, false, e⟩
def orR (res a : ByteArray) : ByteArray := if res = e0 then a else res

def oper (arg res : ByteArray) (taken : List ByteArray) : R := if has taken arg = true then ⟨arg, orR res arg, decide (arg = dy), 0⟩ else bad 7
def goes (l r : ByteArray) : ByteArray := if l = dy then r else l
def both (res : ByteArray) (taken : List ByteArray) (l r : ByteArray) : R :=
  if decide (r = goes l r) = false ∧ decide (r = dy) = false then bad 7 else oper (goes l r) res (taken ++ [dy])
def one (res t : ByteArray) (taken : List ByteArray) (l : ByteArray) : R := oper (if l = dy then t else l) res (t :: taken)

theorem both_eq (res : ByteArray) (T : List ByteArray) (hT : has T dy = false) (l r : ByteArray) : both res T l r =
    if has T l && (decide (r = l) || decide (r = dy)) then ⟨l, orR res l, false, 0⟩ else if decide (l = dy) && has T r then ⟨r, orR res r, false, 0⟩ else
      if decide (l = dy) && decide (r = dy) then ⟨dy, orR res dy, true, 0⟩ else bad 7 := by
  unfold both oper goes
  simp only [has, has_snoc] at hT ⊢
  by_cases hl : l = dy
  · subst hl
    by_cases hr : r = dy
    · subst hr; simp [hT]
    · have hr' : ¬ dy = r := fun e => hr e.symm
      simp [hT, hr, hr']
  · have hl' : ¬ dy = l := fun e => hl e.symm
    by_cases hr : r = dy
    · subst hr; simp [hT, hl, hl']
    · have hr' : ¬ dy = r := fun e => hr e.symm
      by_cases h : r = l
      · subst h; simp [hT, hr, hr']
      · simp [hl, hr, h]

/-- The ways in which operations take types. -/
inductive K | any | truths | ordered | added | numbers | wholes | signed | truth | toReal | toInt | toLen
def K.take : K → ByteArray → ByteArray → R
  | .any, _, _ => ⟨e0, tB, false, 0⟩
  | .truths, l, r => if (both tB [tB] l r).dyn = true then ⟨tB, (both tB [tB] l r).res, false, (both tB [tB] l r).err⟩ else both tB [tB] l r
  | .ordered, l, r => both tB [tI, tR] l r
  | .added, l, r => both e0 [tI, tR, tS] l r
  | .numbers, l, r => both e0 [tI, tR] l r
  | .wholes, l, r => both e0 [tI] l r
  | .signed, l, _ => one e0 tI [tR] l
  | .truth, l, _ => one e0 tB [] l
  | .toReal, l, _ => one tR tI [] l
  | .toInt, l, _ => one tI tR [] l
  | .toLen, l, _ => one tI tS [] l

def binK (op : ByteArray) : Option K :=
  if op = oMod then some .wholes else if op = oDiv then some .numbers else if op = oMul then some .numbers else if op = oSub then some .numbers else if op = oAdd then some .added else
  if op = oLe then some .ordered else if op = oLt then some .ordered else if op = oNe then some .any else if op = oEq then some .any else if op = oAnd then some .truths else if op = oOr then some .truths else none
def unK (op : ByteArray) : Option K := if op = oNot then some .truth else if op = oSub then some .signed else none
def convK (op : ByteArray) : Option K := if op = cLen then some .toLen else if op = tI then some .toInt else if op = tR then some .toReal else none

def binV (op l r : ByteArray) : R := match binK op with
  | none => bad 2
  | some k => if Wrd.typ l = false ∨ Wrd.typ r = false then bad 7 else k.take l r
def unV (op l : ByteArray) : R := match unK op with
  | none => bad 2
  | some k => if Wrd.typ l = false then bad 7 else k.take l e0
def convV (op l : ByteArray) : R := match convK op with
  | none => bad 2
  | some k => if Wrd.typ l = false then bad 7 else k.take l e0

/-! ### The document's form -/
def takes (op s : ByteArray) : Bool :=
  if s = tI then has [oAdd, oSub, oMul, oDiv, oMod, oLt, oLe] op else if s = tR then has [oAdd, oSub, oMul, oDiv, oLt, oLe] op else if s = tS then decide (op = oAdd) else false
def opsL : List ByteArray := [oOr, oAnd, oEq, oNe, oLt, oLe, oAdd, oSub, oMul, oDiv, oMod]
def resOf (op a : ByteArray) : ByteArray := if decide (op = oLt) || decide (op = oLe) then tB else a
def rbin (op l r : ByteArray) : R :=
  if has opsL op = false then bad 2 else if Wrd.typ l = false ∨ Wrd.typ r = false then bad 7 else
  if decide (op = oEq) || decide (op = oNe) then ⟨e0, tB, false, 0⟩ else
  if decide (op = oOr) || decide (op = oAnd) then (if has [tB, dy] l = false ∨ has [tB, dy] r = false then bad 7 else ⟨tB, tB, false, 0⟩) else
  if takes op l && (decide (r = l) || decide (r = dy)) then ⟨l, resOf op l, false, 0⟩ else if decide (l = dy) && takes op r then ⟨r, resOf op r, false, 0⟩ else
  if decide (l = dy) && decide (r = dy) then ⟨dy, resOf op dy, true, 0⟩ else bad 7

theorem takes_of {op : ByteArray} {T : List ByteArray} (h : ∀ s, takes op s = has T s) (hT : has T dy = false) (l r : ByteArray) (res : ByteArray) (hres : ∀ a, orR res a = resOf op a) : both res T l r =
    if takes op l && (decide (r = l) || decide (r = dy)) then ⟨l, resOf op l, false, 0⟩ else if decide (l = dy) && takes op r then ⟨r, resOf op r, false, 0⟩ else
    if decide (l = dy) && decide (r = dy) then ⟨dy, resOf op dy, true, 0⟩ else bad 7 := by
  rw [both_eq res T hT, h, h, hres, hres, hres]
theorem takes3 {op : ByteArray} (a b c : Bool) (ha : has [oAdd, oSub, oMul, oDiv, oMod, oLt, oLe] op = a) (hb : has [oAdd, oSub, oMul, oDiv, oLt, oLe] op = b) (hc : decide (op = oAdd) = c) (s : ByteArray) :
    takes op s = ((a && decide (tI = s)) || (b && decide (tR = s)) || (c && decide (tS = s))) := by
  unfold takes
  rw [ha, hb, hc]
  by_cases h1 : s = tI
  · subst h1; cases a <;> cases b <;> cases c <;> decide
  by_cases h2 : s = tR
  · subst h2; cases a <;> cases b <;> cases c <;> decide
  by_cases h3 : s = tS
  · subst h3; cases a <;> cases b <;> cases c <;> decide
  have g1 : ¬ tI = s := fun e => h1 e.symm
  have g2 : ¬ tR = s := fun e => h2 e.symm
  have g3 : ¬ tS = s := fun e => h3 e.symm
  simp [h1, h2, h3, g1, g2, g3]
theorem ors (res a : ByteArray) (h : res ≠ e0) : orR res a = res := if_neg h

theorem truths_eq (l r : ByteArray) : K.truths.take l r = if has [tB, dy] l = false ∨ has [tB, dy] r = false then bad 7 else ⟨tB, tB, false, 0⟩ := by
  show (if (both tB [tB] l r).dyn = true then (⟨tB, (both tB [tB] l r).res, false, (both tB [tB] l r).err⟩ : R) else both tB [tB] l r) = _
  rw [both_eq tB [tB] (by decide)]
  simp only [has, has_cons, has_nil, Bool.or_false, ors tB _ (by decide)]
  by_cases hl : l = dy
  · subst hl
    by_cases hr : r = dy
    · subst hr; simp
    · have hr' : ¬ dy = r := fun e => hr e.symm
      by_cases hb : tB = r
      · subst hb; simp
      · simp [hr, hr', hb]
  · have hl' : ¬ dy = l := fun e => hl e.symm
    by_cases hb : tB = l
    · subst hb
      by_cases hr : r = dy
      · subst hr; simp
      · have hr' : ¬ dy = r := fun e => hr e.symm
        by_cases hc : r = tB
        · subst hc; simp
        · have hc' : ¬ tB = r := fun e => hc e.symm
          simp [hr, hr', hc, hc']
    · simp [hl, hl', hb]

theorem bin_eq (op l r : ByteArray) : binV op l r = rbin op l r := by
  unfold binV rbin
  by_cases h : has opsL op = false
  · have : binK op = none := by
      simp only [has, opsL, Wrd.has, List.any_cons, List.any_nil, Bool.or_false, Bool.or_eq_false_iff, decide_eq_false_iff_not] at h
      obtain ⟨h1, h2, h3, h4, h5, h6, h7, h8, h9, h10, h11⟩ := h
      unfold binK
      rw [if_neg (fun e => h11 e.symm), if_neg (fun e => h10 e.symm), if_neg (fun e => h9 e.symm), if_neg (fun e => h8 e.symm), if_neg (fun e => h7 e.symm), if_neg (fun e => h6 e.symm), if_neg (fun e => h5 e.symm), if_neg (fun e => h4 e.symm), if_neg (fun e => h3 e.symm), if_neg (fun e => h2 e.symm), if_neg (fun e => h1 e.symm)]
    rw [this, if_pos h]
  rw [if_neg h]
  simp only [has, opsL, Wrd.has, List.any_cons, List.any_nil, Bool.or_false, Bool.not_eq_false, Bool.or_eq_true, decide_eq_true_eq] at h
  rcases h with h | h | h | h | h | h | h | h | h | h | h <;> subst h
  · show (if _ then _ else K.truths.take l r) = _
    rw [truths_eq]; rfl
  · show (if _ then _ else K.truths.take l r) = _
    rw [truths_eq]; rfl
  · rfl
  · rfl
  · show (if _ then _ else K.ordered.take l r) = _
    have := takes_of (op := oLt) (T := [tI, tR]) (fun s => by rw [takes3 true true false (by decide) (by decide) (by decide)]; simp [has, has_cons, has_nil]) (by decide) l r tB (fun a => ors tB a (by decide))
    simp only [K.take, this]; rfl
  · show (if _ then _ else K.ordered.take l r) = _
    have := takes_of (op := oLe) (T := [tI, tR]) (fun s => by rw [takes3 true true false (by decide) (by decide) (by decide)]; simp [has, has_cons, has_nil]) (by decide) l r tB (fun a => ors tB a (by decide))
    simp only [K.take, this]; rfl
  · show (if _ then _ else K.added.take l r) = _
    have := takes_of (op := oAdd) (T := [tI, tR, tS]) (fun s => by rw [takes3 true true true (by decide) (by decide) (by decide)]; simp [has, has_cons, has_nil, Bool.or_assoc]) (by decide) l r e0 (fun a => rfl)
    simp only [K.take, this]; rfl
  · show (if _ then _ else K.numbers.take l r) = _
    have := takes_of (op := oSub) (T := [tI, tR]) (fun s => by rw [takes3 true true false (by decide) (by decide) (by decide)]; simp [has, has_cons, has_nil]) (by decide) l r e0 (fun a => rfl)
    simp only [K.take, this]; rfl
  · show (if _ then _ else K.numbers.take l r) = _
    have := takes_of (op := oMul) (T := [tI, tR]) (fun s => by rw [takes3 true true false (by decide) (by decide) (by decide)]; simp [has, has_cons, has_nil]) (by decide) l r e0 (fun a => rfl)
    simp only [K.take, this]; rfl
  · show (if _ then _ else K.numbers.take l r) = _
    have := takes_of (op := oDiv) (T := [tI, tR]) (fun s => by rw [takes3 true true false (by decide) (by decide) (by decide)]; simp [has, has_cons, has_nil]) (by decide) l r e0 (fun a => rfl)
    simp only [K.take, this]; rfl
  · show (if _ then _ else K.wholes.take l r) = _
    have := takes_of (op := oMod) (T := [tI]) (fun s => by rw [takes3 true false false (by decide) (by decide) (by decide)]; simp [has, has_cons, has_nil]) (by decide) l r e0 (fun a => rfl)
    simp only [K.take, this]; rfl
end Go.Proofs.YtcaailiijmjdlaaGreatDoor.Zp
