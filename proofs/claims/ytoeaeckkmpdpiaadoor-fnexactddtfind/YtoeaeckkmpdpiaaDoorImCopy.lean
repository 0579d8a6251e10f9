/-
  impl's diskCopy and disk: a disk in memory of the call's own, and the disk that a draft has become.
-/
import Derived.Test.YtoeaeckkmpdpiaaDoorImClone
set_option maxRecDepth 100000
namespace Go.Proofs.YtoeaeckkmpdpiaaDoor
open Go.ChangeShapes Go.WideShapes Go.ChangeAt Go.RowKit Go.Proofs.Palim

theorem apart_of {w : World} {B e sz n : Nat} {v u : Value} {xs : List Value} (hv : Low B v) (hu : w.ownsRow B e sz u n xs) : Apart v u := fun g e e' => by
  have h1 := hv g e
  have h2 := (hu.lt g e').1
  omega

end Go.Proofs.YtoeaeckkmpdpiaaDoor
