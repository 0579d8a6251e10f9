/-
  spec's DiskRead.
-/
import Derived.Test.YtobjgdnmlibofaaDiskRead
import Derived.Test.YtobjgdnmlibofaaData
set_option maxRecDepth 100000
namespace Go.Proofs.Ytobjgdnmlibofaa
open Go.ChangeShapes Go.WideShapes Go.ChangeAt Go.RowKit Go.Proofs.Palim

def CanRead (d : DiskM) (side at_ : Int) : Prop := DiskOkM d ∧ There d.s0.length side at_ 0
instance (d : DiskM) (side at_ : Int) : Decidable (CanRead d side at_) := by unfold CanRead; infer_instance
def readOut (d : DiskM) (side at_ : Int) : ByteArray := if CanRead d side at_ then secM d side at_ else ⟨#[]⟩

theorem ret_two {a b : ByteArray} {x y : Bool} (h : a = b) (h2 : x = y) : Ending.returned (.tuple #[.string a, .bool x]) = Ending.returned (.tuple #[.string b, .bool y]) := by rw [h, h2]

end Go.Proofs.Ytobjgdnmlibofaa
