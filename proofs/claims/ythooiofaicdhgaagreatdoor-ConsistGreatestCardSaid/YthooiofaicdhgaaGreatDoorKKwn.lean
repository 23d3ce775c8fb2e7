/- The chapter's table, as the laws make it. The laws' comparisons of lists, where both are the same; and a table's fault held against one. The law's helpers: a table's fault held against one, and some of the chapter's examples. The chapter's examples are answered as it says. -/
import Derived.Test.YthooiofaicdhgaaGreatDoorKChk
import Derived.Test.YthooiofaicdhgaaGreatDoorKTbf
import Derived.Test.YthooiofaicdhgaaGreatDoorKBlk
import Derived.BigQuiet
import Derived.Test.YthooiofaicdhgaaGreatDoorKSup
import Derived.Test.YthooiofaicdhgaaGreatDoorKAri
import Derived.Test.YthooiofaicdhgaaGreatDoorKMem
set_option linter.unusedSimpArgs false
set_option linter.unusedVariables false
set_option maxRecDepth 100000
namespace Go.Proofs.YthooiofaicdhgaaGreatDoor
open Go.ChangeShapes Go.WideShapes Go.ChangeAt Go.RowKit
abbrev tx (l : List UInt8) : ByteArray := ⟨l.toArray⟩
theorem row_one {α : Type} {k : Nat} {R : World → Nat → Nat → α → Prop} {w : World} {g : Nat} {x : α} (h : R w g 0 x) : Row k R w (.slice (some ⟨g, 0, none⟩) 1 1) [x] :=
 ⟨_, 1, rfl, Nat.le_refl _, by decide, fun i y hy => by
  match i, hy with
  | 0, hy => cases hy; exact ⟨g, 0, rfl, by simpa using h⟩⟩
theorem row_two {α : Type} {k : Nat} {R : World → Nat → Nat → α → Prop} {w : World} {g : Nat} {x y : α} (h : R w g 0 x) (h2 : R w g k y) : Row k R w (.slice (some ⟨g, 0, none⟩) 2 2) [x, y] :=
 ⟨_, 2, rfl, Nat.le_refl _, by decide, fun i z hz => by
  match i, hz with
  | 0, hz => cases hz; exact ⟨g, 0, rfl, by simpa using h⟩
  | 1, hz => cases hz; exact ⟨g, 0, rfl, by simpa using h2⟩⟩
theorem sz (l : List UInt8) (h : l.length ≤ 100) : (tx l).size ≤ maxLen := by
 show l.toArray.size ≤ maxLen
 unfold maxLen
 simp
 omega
end Go.Proofs.YthooiofaicdhgaaGreatDoor
namespace Go.Proofs.YthooiofaicdhgaaGreatDoor
open Go.ChangeShapes Go.WideShapes Go.ChangeAt Go.RowKit
end Go.Proofs.YthooiofaicdhgaaGreatDoor
namespace Go.Proofs.YthooiofaicdhgaaGreatDoor
open Go.ChangeShapes Go.WideShapes Go.ChangeAt Go.RowKit
end Go.Proofs.YthooiofaicdhgaaGreatDoor
namespace Go.Proofs.YthooiofaicdhgaaGreatDoor
open Go.ChangeShapes Go.WideShapes Go.ChangeAt Go.RowKit
end Go.Proofs.YthooiofaicdhgaaGreatDoor
