/- The document's own answers about types (chaperonref06): in, class, Typed. -/
import Derived.Test.YthooiofaicdhgaaGreatDoorQRfc
import Derived.Test.YthooiofaicdhgaaGreatDoorQRfm
set_option linter.unusedSimpArgs false
set_option linter.unusedVariables false
set_option maxRecDepth 100000
namespace Go.Proofs.YthooiofaicdhgaaGreatDoor
open Go.ChangeShapes Go.WideShapes Go.ChangeAt Go.RowKit
theorem isT_or (t : List Tab.C) (s : ByteArray) : Tab.isT t s = (Wrd.base s || (decide (s = ⟨#[63]⟩) || Tab.isC t s)) := by
 unfold Tab.isT
 rw [← Bool.or_assoc]
 congr 1
 rw [Bool.eq_iff_iff]
 unfold Tab.basics Wrd.base Wrd.has Wrd.bs
 simp
 constructor
 ·rintro (e | e | e | e | e | e) <;> subst e <;> simp
 ·rintro ((e | e | e | e | e) | e) <;> subst e <;> simp
end Go.Proofs.YthooiofaicdhgaaGreatDoor
