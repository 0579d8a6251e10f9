/-
  Which disks are valid: spec's DiskOk.
-/
import Derived.Test.YtobjgdnmlibofaaBase
set_option maxRecDepth 100000
namespace Go.Proofs.Ytobjgdnmlibofaa
open Go.ChangeShapes Go.WideShapes Go.ChangeAt Go.RowKit Go.Proofs.Palim

/-- There is such a sector, and the text fits. -/
def There (n : Nat) (side at_ : Int) (size : Nat) : Prop := 0 ≤ side ∧ side ≤ 1 ∧ 0 ≤ at_ ∧ at_ < n ∧ size ≤ 420
instance (n : Nat) (side at_ : Int) (size : Nat) : Decidable (There n side at_ size) := by unfold There; infer_instance

theorem ret_bool {a b : Bool} (h : a = b) : Ending.returned (.bool a) = Ending.returned (.bool b) := by rw [h]

theorem dec_eq {a b : Bool} (h : a = true ↔ b = true) : a = b := by cases a <;> cases b <;> simp_all

def DiskOkM (d : DiskM) : Prop := 1 ≤ d.s0.length ∧ d.s0.length ≤ 120 ∧ d.s1.length = d.s0.length ∧ d.late.length ≤ 600 ∧ (∀ s ∈ d.s0, s.size ≤ 420) ∧ (∀ s ∈ d.s1, s.size ≤ 420) ∧ ∀ x ∈ d.late, There d.s0.length x.side x.at_ x.text.size
instance (d : DiskM) : Decidable (DiskOkM d) := by unfold DiskOkM; infer_instance

end Go.Proofs.Ytobjgdnmlibofaa
