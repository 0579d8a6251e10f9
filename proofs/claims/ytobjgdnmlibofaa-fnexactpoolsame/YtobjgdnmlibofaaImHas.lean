/-
  impl's has and diskTakes: whether a sector is there, and whether a text fits into it.
-/
import Derived.Test.YtobjgdnmlibofaaData
set_option maxRecDepth 100000
namespace Go.Proofs.Ytobjgdnmlibofaa
open Go.ChangeShapes Go.WideShapes Go.ChangeAt Go.RowKit Go.Proofs.Palim

/-- There is such a sector. -/
def Has (n0 n1 : Nat) (side at_ : Int) : Prop := (side = 0 ∧ 0 ≤ at_ ∧ at_ < n0) ∨ (side = 1 ∧ 0 ≤ at_ ∧ at_ < n1)
instance (n0 n1 : Nat) (side at_ : Int) : Decidable (Has n0 n1 side at_) := by unfold Has; infer_instance
theorem has_there (n : Nat) (side at_ : Int) (size : Nat) : (Has n n side at_ ∧ size ≤ 420) ↔ There n side at_ size := by unfold Has There; omega

end Go.Proofs.Ytobjgdnmlibofaa
