/- OpersSame's walk, in the order of its card. -/
import Derived.Test.YtcaailiijmjdlaaDoorZxb
namespace Go.Proofs.YtcaailiijmjdlaaDoor
open Go.ChangeShapes Go.WideShapes Go.ChangeAt Go.RowKit Flo
open Zp (V)
theorem osame_card (a : V) (pa : Option Addr) (x : List Ly) (ca : Nat) (b : V) (pb : Option Addr) (y : List Ly) (cb : Nat) (w : World) (hT : Tb w) (ha : V.ok a) (hx : LysAt w (.slice pa x.length ca) x) (hb : V.ok b) (hy : LysAt w (.slice pb y.length cb) y) :
    Calls Tryd.prog 3 #[a.v (.slice pa x.length ca), b.v (.slice pb y.length cb)] w fun e w' => e = .returned (.bool true) ∧ Kept w w' :=
  osame_c a b ha hb x y pa pb x.length ca y.length cb w hT hx hy
end Go.Proofs.YtcaailiijmjdlaaDoor
