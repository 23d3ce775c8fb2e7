/- Layer 13 in plain words: a list of tokens (the end last) as a tree, or the byte at which it is none. Each part is told by F, which tells the parts within that come behind a token. No program is named here. -/
import Derived.Test.YtfkmnpgpfmkjaaaGreatDoory1
import Derived.Test.YtfkmnpgpfmkjaaaGreatDoory2
set_option linter.unusedSimpArgs false
set_option linter.unusedVariables false
namespace Go.Proofs.YtfkmnpgpfmkjaaaGreatDoor
namespace Ps
abbrev T := Lx.T

inductive O (α : Type) where
  | ok (a : α) (r : List T)
  | bad (p : Int)

def O.bind {α β : Type} : O α → (α → List T → O β) → O β
  | .ok a r, f => f a r
  | .bad p, _ => .bad p
theorem O.bind_ok {α β : Type} (a : α) (r : List T) (f : α → List T → O β) : O.bind (.ok a r) f = f a r := rfl
theorem O.bind_bad {α β : Type} (p : Int) (f : α → List T → O β) : O.bind (.bad p) f = .bad p := rfl

abbrev e0 : ByteArray := ⟨#[]⟩
abbrev theEnd : ByteArray := ⟨#[116, 104, 101, 32, 101, 110, 100]⟩
abbrev aName : ByteArray := ⟨#[97, 32, 110, 97, 109, 101]⟩
abbrev aClass : ByteArray := ⟨#[97, 32, 99, 108, 97, 115, 115]⟩
abbrev anInt : ByteArray := ⟨#[97, 110, 32, 105, 110, 116]⟩
abbrev aReal : ByteArray := ⟨#[97, 32, 114, 101, 97, 108]⟩
abbrev aStr : ByteArray := ⟨#[97, 32, 115, 116, 114, 105, 110, 103]⟩
abbrev kComma : ByteArray := ⟨#[44]⟩
abbrev kOpen : ByteArray := ⟨#[40]⟩
abbrev kShut : ByteArray := ⟨#[41]⟩
abbrev kLeft : ByteArray := ⟨#[123]⟩
abbrev kRight : ByteArray := ⟨#[125]⟩
abbrev kColon : ByteArray := ⟨#[58]⟩
abbrev kSemi : ByteArray := ⟨#[59]⟩
abbrev kDot : ByteArray := ⟨#[46]⟩
abbrev kEq : ByteArray := ⟨#[61]⟩
abbrev kMinus : ByteArray := ⟨#[45]⟩
abbrev kBang : ByteArray := ⟨#[33]⟩
abbrev kAny : ByteArray := ⟨#[63]⟩

/-- What the grammar calls tokens of a kind, and a token. -/
def srtK (k : Int) : ByteArray := if k = 0 then theEnd else if k = 1 then aName else if k = 2 then aClass else if k = 4 then anInt else if k = 5 then aReal else if k = 6 then aStr else e0
def srt (t : T) : ByteArray := if t.kind = 3 then t.text else if t.kind = 7 then t.text else srtK t.kind
def hd : List T → ByteArray
  | [] => e0
  | t :: _ => srt t
def at0 : List T → Int
  | [] => 0
  | t :: _ => t.pos
def mem (ss : List ByteArray) (x : ByteArray) : Bool := ss.any fun s => decide (s = x)
def is (ss : List ByteArray) (l : List T) : Bool := mem ss (hd l)
def take (ss : List ByteArray) : List T → O T
  | [] => .bad 0
  | t :: r => if mem ss (srt t) then .ok t r else .bad t.pos

def nd (k : Int) (t y : ByteArray) (n : Int) (ks : List Nd) : Nd := .mk k t y e0 n ks

inductive W where
  | expr
  | oper (i : Nat)
  | unary
  | block
abbrev Fam := W → List T → O Nd

def levels : Nat → List ByteArray
  | 0 => [⟨#[124, 124]⟩]
  | 1 => [⟨#[38, 38]⟩]
  | 2 => [⟨#[61, 61]⟩, ⟨#[33, 61]⟩]
  | 3 => [⟨#[60]⟩, ⟨#[60, 61]⟩]
  | 4 => [⟨#[43]⟩, ⟨#[45]⟩]
  | 5 => [⟨#[42]⟩, ⟨#[47]⟩, ⟨#[37]⟩]
  | _ => []

def typs : List ByteArray := [⟨#[105, 110, 116]⟩, ⟨#[114, 101, 97, 108]⟩, ⟨#[98, 111, 111, 108]⟩, ⟨#[115, 116, 114]⟩, ⟨#[117, 110, 105, 116]⟩, kAny, aClass]
def typ (l : List T) : O ByteArray := (take typs l).bind fun t r => .ok t.text r
def annot (l : List T) : O ByteArray := if is [kColon] l then typ l.tail else .ok kAny l
def param (l : List T) : O Nd := (take [aName] l).bind fun t r => (annot r).bind fun y r => .ok (nd 5 t.text y 0 []) r
def field (l : List T) : O Nd := (take [⟨#[118, 97, 114]⟩] l).bind fun _ r => (take [aName] r).bind fun t r => (annot r).bind fun y r => (take [kSemi] r).bind fun _ r => .ok (nd 3 t.text y 0 []) r

def listLoop (part : List T → O Nd) : Nat → List Nd → List T → O (List Nd)
  | 0, _, _ => .bad 0
  | k + 1, acc, l => if is [kComma] l then (part l.tail).bind fun x r => listLoop part k (acc ++ [x]) r else (take [kShut] l).bind fun _ r => .ok acc r
def list (part : List T → O Nd) (l : List T) : O (List Nd) :=
  (take [kOpen] l).bind fun _ r => if is [kShut] r then .ok [] r.tail else (part r).bind fun x r => listLoop part (r.length + 1) [x] r

section
variable (F : Fam)
def args (l : List T) : O (List Nd) := list (F .expr) l
def operand (l : List T) : O (List Nd) := (take [kOpen] l).bind fun _ r => (F .expr r).bind fun x r => (take [kShut] r).bind fun _ r => .ok [x] r

/-- The ways of a prim, each told the prim's first token. -/
def wWhole (t : T) (l : List T) : O Nd := .ok (nd 7 e0 e0 t.n []) l
def wReal (t : T) (l : List T) : O Nd := .ok (nd 8 e0 e0 t.n []) l
def wNoNumber (t : T) (l : List T) : O Nd := .ok (nd 8 t.text e0 0 []) l
def wYes (_ : T) (l : List T) : O Nd := .ok (nd 9 e0 e0 1 []) l
def wNo (_ : T) (l : List T) : O Nd := .ok (nd 9 e0 e0 0 []) l
def wText (t : T) (l : List T) : O Nd := .ok (nd 10 t.text e0 0 []) l
def wBrackets (_ : T) (l : List T) : O Nd :=
  if is [kShut] l then .ok (nd 11 e0 e0 0 []) l.tail else (F .expr l).bind fun x r => if is [kColon] r then (typ r.tail).bind fun y r => (take [kShut] r).bind fun _ r => .ok (nd 28 e0 y 0 [x]) r else (take [kShut] r).bind fun _ r => .ok x r
def wNone (_ : T) (l : List T) : O Nd := (take [aClass] l).bind fun t r => .ok (nd 12 e0 t.text 0 []) r
def wThis (_ : T) (l : List T) : O Nd := .ok (nd 13 e0 e0 0 []) l
def wVar (t : T) (l : List T) : O Nd := .ok (nd 14 t.text e0 0 []) l
def wSuper (_ : T) (l : List T) : O Nd := (take [kDot] l).bind fun _ r => (take [aName] r).bind fun t r => (args F r).bind fun av r => .ok (nd 20 t.text e0 0 av) r
def wObject (_ : T) (l : List T) : O Nd := (take [aClass] l).bind fun t r => (args F r).bind fun av r => .ok (nd 21 e0 t.text 0 av) r
def wChoice (_ : T) (l : List T) : O Nd := (F .expr l).bind fun c r => (F .block r).bind fun a r => (take [⟨#[101, 108, 115, 101]⟩] r).bind fun _ r => (F .block r).bind fun b r => .ok (nd 22 e0 e0 0 [c, a, b]) r
def wLoop (_ : T) (l : List T) : O Nd := (F .expr l).bind fun c r => (F .block r).bind fun a r => .ok (nd 23 e0 e0 0 [c, a]) r
def wRead (_ : T) (l : List T) : O Nd := (take [kOpen] l).bind fun _ r => (take [kShut] r).bind fun _ r => .ok (nd 26 e0 e0 0 []) r
def wPrint (_ : T) (l : List T) : O Nd := (operand F l).bind fun av r => .ok (nd 27 e0 e0 0 av) r
def wConv (t : T) (l : List T) : O Nd := (operand F l).bind fun av r => .ok (nd 29 t.text e0 0 av) r

def prim : List T → O Nd
  | [] => .bad 0
  | t :: r =>
    if srt t = anInt then wWhole t r else if srt t = aReal then wReal t r
    else if srt t = ⟨#[110, 97, 110]⟩ then wNoNumber t r else if srt t = ⟨#[105, 110, 102]⟩ then wNoNumber t r
    else if srt t = ⟨#[116, 114, 117, 101]⟩ then wYes t r else if srt t = ⟨#[102, 97, 108, 115, 101]⟩ then wNo t r
    else if srt t = aStr then wText t r else if srt t = kOpen then wBrackets F t r
    else if srt t = ⟨#[110, 111, 110, 101]⟩ then wNone t r else if srt t = ⟨#[116, 104, 105, 115]⟩ then wThis t r
    else if srt t = aName then wVar t r else if srt t = ⟨#[115, 117, 112, 101, 114]⟩ then wSuper F t r
    else if srt t = ⟨#[110, 101, 119]⟩ then wObject F t r else if srt t = ⟨#[105, 102]⟩ then wChoice F t r
    else if srt t = ⟨#[119, 104, 105, 108, 101]⟩ then wLoop F t r else if srt t = ⟨#[114, 101, 97, 100]⟩ then wRead t r
    else if srt t = ⟨#[112, 114, 105, 110, 116]⟩ then wPrint F t r else if srt t = ⟨#[114, 101, 97, 108]⟩ then wConv F t r
    else if srt t = ⟨#[105, 110, 116]⟩ then wConv F t r else if srt t = ⟨#[108, 101, 110]⟩ then wConv F t r
    else .bad t.pos

def postLoop : Nat → Nd → List T → O Nd
  | 0, n, l => .ok n l
  | k + 1, n, l => if is [kDot] l then (take [aName] l.tail).bind fun t r => if is [kOpen] r then (args F r).bind fun av r => postLoop k (nd 19 t.text e0 0 (n :: av)) r else postLoop k (nd 17 t.text e0 0 [n]) r else .ok n l
def post (l : List T) : O Nd := (prim F l).bind fun n r => postLoop F r.length n r

def unary : List T → O Nd
  | [] => post F []
  | t :: r => if mem [kMinus, kBang] (srt t) then (F .unary r).bind fun m r' => .ok (nd 24 t.text e0 0 [m]) r' else post F (t :: r)

def lvl (j : Nat) : Nat → Nd → List T → O Nd
  | 0, n, l => .ok n l
  | _ + 1, n, [] => .ok n []
  | k + 1, n, t :: r => if mem (levels j) (srt t) then (F (.oper (j + 1)) r).bind fun m r' => lvl j k (nd 25 t.text e0 0 [n, m]) r' else .ok n (t :: r)
def levs (least : Nat) : Nat → Nd → List T → O Nd
  | 0, n, l => .ok n l
  | j + 1, n, l => if least ≤ j then (lvl F j l.length n l).bind (levs least j) else .ok n l
def oper (i : Nat) (l : List T) : O Nd := (unary F l).bind fun n r => levs F i 6 n r

/-- What may have a = behind it, and what it is with it. -/
def setK (k : Int) : Int := if k = 14 then 16 else if k = 17 then 18 else 0
def expr (l : List T) : O Nd := (oper F 0 l).bind fun n r => if is [kEq] r then (if setK n.kind = 0 then .bad (at0 r) else (F .expr r.tail).bind fun m r => .ok (.mk (setK n.kind) n.text n.typ n.frm n.n (n.kids ++ [m])) r) else .ok n r

def entry (l : List T) : O Nd := if is [⟨#[108, 101, 116]⟩] l then (take [aName] l.tail).bind fun t r => (annot r).bind fun y r => (take [kEq] r).bind fun _ r => (F .expr r).bind fun m r => .ok (nd 15 t.text y 0 [m]) r else F .expr l
def blockLoop : Nat → List Nd → List T → O Nd
  | 0, _, _ => .bad 0
  | k + 1, acc, l => if is [kRight] l then .ok (nd 6 e0 e0 0 acc) l.tail else (entry F l).bind fun x r => if is [kSemi] r then blockLoop k (acc ++ [x]) r.tail else (take [kRight] r).bind fun _ r => .ok (nd 6 e0 e0 0 (acc ++ [x])) r
def block (l : List T) : O Nd := (take [kLeft] l).bind fun _ r => blockLoop F (r.length + 1) [] r

def method (l : List T) : O Nd := (take [⟨#[100, 101, 102]⟩] l).bind fun _ r => (take [aName] r).bind fun t r => (list param r).bind fun av r => (annot r).bind fun y r => (F .block r).bind fun b r => .ok (nd 4 t.text y 0 (av ++ [b])) r
def many (s : ByteArray) (part : List T → O Nd) : Nat → List Nd → List T → O (List Nd)
  | 0, acc, l => .ok acc l
  | k + 1, acc, l => if is [s] l then (part l).bind fun x r => many s part k (acc ++ [x]) r else .ok acc l
def class1 (l : List T) : O Nd := (take [⟨#[99, 108, 97, 115, 115]⟩] l).bind fun _ r => (take [aClass] r).bind fun t r =>
  (if is [kColon] r then (take [aClass] r.tail).bind fun y r => .ok y.text r else .ok e0 r).bind fun y r => (take [kLeft] r).bind fun _ r =>
  (many ⟨#[118, 97, 114]⟩ field r.length [] r).bind fun ks r => (many ⟨#[100, 101, 102]⟩ (method F) r.length ks r).bind fun ks r => (take [kRight] r).bind fun _ r => .ok (nd 2 t.text y 0 ks) r
def program (l : List T) : O Nd := (many ⟨#[99, 108, 97, 115, 115]⟩ (class1 F) l.length [] l).bind fun ks r => (take [⟨#[109, 97, 105, 110]⟩] r).bind fun _ r => (F .block r).bind fun b r => .ok (nd 1 e0 e0 0 (ks ++ [b])) r
end

/-- All parts, to a depth of k. -/
def run : Nat → Fam
  | 0, _, _ => .bad 0
  | k + 1, .expr, l => expr (run k) l
  | k + 1, .oper i, l => oper (run k) i l
  | k + 1, .unary, l => unary (run k) l
  | k + 1, .block, l => block (run k) l

def whole (l : List T) : O Nd := (program (run l.length) l).bind fun n r => (take [theEnd] r).bind fun _ _ => .ok n []
def theEndT (n : Int) : T := { kind := 0, text := e0, n := 0, pos := n }
end Ps
end Go.Proofs.YtfkmnpgpfmkjaaaGreatDoor
