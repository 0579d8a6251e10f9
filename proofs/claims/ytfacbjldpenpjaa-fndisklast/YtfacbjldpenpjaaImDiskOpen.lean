/-
  impl's DiskOpen: two sides of empty sectors, or no disk.
-/
import Derived.Test.YtfacbjldpenpjaaDiskOpen
set_option maxRecDepth 100000
namespace Go.Proofs.Ytfacbjldpenpjaa
open Go.ChangeShapes Go.WideShapes Go.ChangeAt Go.RowKit Go.Proofs.Palim

/-- After the three stores of a disk into a box of the call's own. -/
theorem Below.set3 {B : Nat} {w w' : World} (h : Below B w w') {b : Nat} (hb : B ≤ b) (x y z : Value) : Below B w (((w'.setCell ⟨b, 0, none⟩ x).setCell ⟨b, 1, none⟩ y).setCell ⟨b, 2, none⟩ z) :=
  ((h.setCell (p := ⟨b, 0, none⟩) hb x).setCell (p := ⟨b, 1, none⟩) hb y).setCell (p := ⟨b, 2, none⟩) hb z

end Go.Proofs.Ytfacbjldpenpjaa
