/- Layer 13 in plain words: a list of tokens (the end last) as a tree, or the byte at which it is none. Each part is told by F, which tells the parts within that come behind a token. No program is named here. -/
import Derived.Test.YtfpklgffdniegaaGreatDoorQw1
import Derived.Test.YtfpklgffdniegaaGreatDoorQw2
set_option linter.unusedSimpArgs false
set_option linter.unusedVariables false
namespace Go.Proofs.YtfpklgffdniegaaGreatDoor
namespace Ps
abbrev e0 : ByteArray := ⟨#[]⟩
abbrev kComma : ByteArray := ⟨#[44]⟩
abbrev kOpen : ByteArray := ⟨#[40]⟩
abbrev kShut : ByteArray := ⟨#[41]⟩
abbrev kLeft : ByteArray := ⟨#[123]⟩
abbrev kRight : ByteArray := ⟨#[125]⟩
abbrev kColon : ByteArray := ⟨#[58]⟩
abbrev kSemi : ByteArray := ⟨#[59]⟩
abbrev kDot : ByteArray := ⟨#[46]⟩
abbrev kEq : ByteArray := ⟨#[61]⟩
abbrev kAny : ByteArray := ⟨#[63]⟩
def nd (k : Int) (t y : ByteArray) (n : Int) (ks : List Nd) : Nd := .mk k t y e0 n ks
section
-- variable
end
end Ps
namespace Pr
abbrev T := Lx.T
def tk (k : Int) (x : ByteArray) (n : Int) : T := { kind := k, text := x, n := n, pos := 0 }
abbrev key (x : ByteArray) : T := tk 3 x 0
abbrev sgn (x : ByteArray) : T := tk 7 x 0
abbrev nam (x : ByteArray) : T := tk 1 x 0
/-- How strongly an expression binds. -/
def opLv (t : ByteArray) : Int := if t = ⟨#[124, 124]⟩ then 1 else if t = ⟨#[38, 38]⟩ then 2 else if t = ⟨#[61, 61]⟩ ∨ t = ⟨#[33, 61]⟩ then 3 else if t = ⟨#[60]⟩ ∨ t = ⟨#[60, 61]⟩ then 4 else if t = ⟨#[43]⟩ ∨ t = ⟨#[45]⟩ then 5 else 6
def lvK (k : Int) (t : ByteArray) : Int := if k = 16 ∨ k = 18 then 0 else if k = 25 then opLv t else if k = 24 then 7 else 8
def lv (x : Nd) : Int := lvK x.kind x.text
def isBase (y : ByteArray) : Bool := decide (y = ⟨#[105, 110, 116]⟩) || decide (y = ⟨#[114, 101, 97, 108]⟩) || decide (y = ⟨#[98, 111, 111, 108]⟩) || decide (y = ⟨#[115, 116, 114]⟩) || decide (y = ⟨#[117, 110, 105, 116]⟩)
def typT (y : ByteArray) : T := if isBase y then key y else if y = Ps.kAny then sgn y else tk 2 y 0
def ann (y om : ByteArray) : List T := if y = om then [] else [sgn Ps.kColon, typT y]
/-- A kid: its level, and its tokens. -/
abbrev Kd := Int × List T
def at1 (i : Int) (p : Kd) : List T := if p.1 < i then sgn Ps.kOpen :: p.2 ++ [sgn Ps.kShut] else p.2
def sep (s : List T) : List Kd → List T
 | [] => []
 | [p] => p.2
 | p :: q :: r => p.2 ++ s ++ sep s (q :: r)
def brk (l : List Kd) : List T := sgn Ps.kOpen :: sep [sgn Ps.kComma] l ++ [sgn Ps.kShut]
def kd (l : List Kd) (i : Nat) : Kd := l.getD i (0, [])
def lastK (l : List Kd) : Kd := l.getLastD (0, [])
def form (k : Int) (t y : ByteArray) (n : Int) (l : List Kd) : List T :=
 if k = 1 then sep [] l.dropLast ++ key ⟨#[109, 97, 105, 110]⟩ :: (lastK l).2
 else if k = 2 then key ⟨#[99, 108, 97, 115, 115]⟩ :: typT t :: ann y Ps.e0 ++ sgn Ps.kLeft :: sep [] l ++ [sgn Ps.kRight]
 else if k = 3 then key ⟨#[118, 97, 114]⟩ :: nam t :: ann y Ps.kAny ++ [sgn Ps.kSemi]
 else if k = 4 then key ⟨#[100, 101, 102]⟩ :: nam t :: brk l.dropLast ++ ann y Ps.kAny ++ (lastK l).2
 else if k = 5 then nam t :: ann y Ps.kAny
 else if k = 6 then sgn Ps.kLeft :: sep [sgn Ps.kSemi] l ++ [sgn Ps.kRight]
 else if k = 15 then key ⟨#[108, 101, 116]⟩ :: nam t :: ann y Ps.kAny ++ sgn Ps.kEq :: (kd l 0).2
 else if k = 7 then [tk 4 Ps.e0 n]
 else if k = 8 then (if t = Ps.e0 then [tk 5 Ps.e0 n] else [key t])
 else if k = 9 then (if n = 0 then [key ⟨#[102, 97, 108, 115, 101]⟩] else [key ⟨#[116, 114, 117, 101]⟩])
 else if k = 10 then [tk 6 t 0]
 else if k = 11 then brk []
 else if k = 13 then [key ⟨#[116, 104, 105, 115]⟩]
 else if k = 12 then [key ⟨#[110, 111, 110, 101]⟩, typT y]
 else if k = 14 then [nam t]
 else if k = 16 then nam t :: sgn Ps.kEq :: (kd l 0).2
 else if k = 18 then at1 8 (kd l 0) ++ sgn Ps.kDot :: nam t :: sgn Ps.kEq :: (kd l 1).2
 else if k = 17 then at1 8 (kd l 0) ++ [sgn Ps.kDot, nam t]
 else if k = 19 then at1 8 (kd l 0) ++ sgn Ps.kDot :: nam t :: brk l.tail
 else if k = 20 then key ⟨#[115, 117, 112, 101, 114]⟩ :: sgn Ps.kDot :: nam t :: brk l
 else if k = 21 then key ⟨#[110, 101, 119]⟩ :: typT y :: brk l
 else if k = 22 then key ⟨#[105, 102]⟩ :: (kd l 0).2 ++ (kd l 1).2 ++ key ⟨#[101, 108, 115, 101]⟩ :: (kd l 2).2
 else if k = 23 then key ⟨#[119, 104, 105, 108, 101]⟩ :: sep [] l
 else if k = 24 then sgn t :: at1 7 (kd l 0)
 else if k = 25 then at1 (opLv t) (kd l 0) ++ sgn t :: at1 (opLv t + 1) (kd l 1)
 else if k = 26 then key ⟨#[114, 101, 97, 100]⟩ :: brk []
 else if k = 27 then key ⟨#[112, 114, 105, 110, 116]⟩ :: brk l
 else if k = 29 then key t :: brk l
 else if k = 28 then sgn Ps.kOpen :: (kd l 0).2 ++ sgn Ps.kColon :: typT y :: [sgn Ps.kShut]
 else []
mutual
 def toks : Nd → List T
  | .mk k t y f n ks => form k t y n (toksL ks)
 def toksL : List Nd → List Kd
  | [] => []
  | x :: r => (lvN x, toks x) :: toksL r
 def lvN : Nd → Int
  | .mk k t _ _ _ _ => lvK k t
 end
theorem lvN_eq (x : Nd) : lvN x = lv x := by cases x; rw [lvN]; rfl
theorem toksL_eq : ∀ l : List Nd, toksL l = l.map fun x => (lv x, toks x)
 | [] => by rw [toksL]; rfl
 | x :: r => by rw [toksL, toksL_eq r, lvN_eq]; rfl
theorem toks_eq (x : Nd) : toks x = form x.kind x.text x.typ x.n (x.kids.map fun y => (lv y, toks y)) := by
 cases x with
 | mk k t y f n ks => rw [toks, toksL_eq]; rfl
end Pr
namespace Ps
end Ps
namespace Ps
section
-- variable
-- include
-- omit
-- omit
-- omit
-- omit
-- omit
-- omit
-- omit
end
end Ps
namespace Ps
end Ps
namespace Pr
open Ps (kDot kOpen kShut kEq kComma kSemi kLeft kRight kColon)
abbrev kdN (e : Nd) : Kd := (lv e, toks e)
end Pr
end Go.Proofs.YtfpklgffdniegaaGreatDoor
