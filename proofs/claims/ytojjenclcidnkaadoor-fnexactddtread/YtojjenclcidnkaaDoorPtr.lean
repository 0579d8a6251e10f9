/-
  Pointers as values: the laws' helpers on them, and which of them are valid.
-/
import Derived.Test.YtojjenclcidnkaaDoorRows
import Derived.Test.YtojjenclcidnkaaDoorMem
import Derived.Test.YtojjenclcidnkaaDoorBox
import Derived.WalkKit
import Derived.ProofKit
import Derived.Lib.Hide
import Derived.Laws.StructEq
set_option maxRecDepth 100000
namespace Go.Proofs.YtojjenclcidnkaaDoor
open Go.ChangeShapes Go.WideShapes Go.ChangeAt Go.RowKit Go.Proofs.Palim

structure PtrM where
  at_ : Int
  sum : Int
  birth : Int
/-- A pointer's value. -/
abbrev pv (p : PtrM) : Value := .agg #[.int .i64 p.at_, .int .i64 p.sum, .int .i64 p.birth]
/-- Its numbers are ints. -/
structure PtrFits (p : PtrM) : Prop where
  a : -9223372036854775808 ≤ p.at_ ∧ p.at_ ≤ 9223372036854775807
  s : -9223372036854775808 ≤ p.sum ∧ p.sum ≤ 9223372036854775807
  b : -9223372036854775808 ≤ p.birth ∧ p.birth ≤ 9223372036854775807
def NullM (p : PtrM) : Prop := p.at_ = 0 ∧ p.sum = 0 ∧ p.birth = 0
instance (p : PtrM) : Decidable (NullM p) := by unfold NullM; infer_instance
def GoodM (p : PtrM) : Prop := 1 ≤ p.at_ ∧ p.at_ < 120 ∧ 0 ≤ p.sum ∧ p.sum < 65521 ∧ 0 ≤ p.birth ∧ p.birth ≤ 1000000
instance (p : PtrM) : Decidable (GoodM p) := by unfold GoodM; infer_instance
def PtrOkM (p : PtrM) : Prop := NullM p ∨ GoodM p
instance (p : PtrM) : Decidable (PtrOkM p) := by unfold PtrOkM; infer_instance

theorem ret_b {a b : Bool} (h : a = b) : Ending.returned (.bool a) = Ending.returned (.bool b) := by rw [h]
theorem dec_b {a b : Bool} (h : a = true ↔ b = true) : a = b := by cases a <;> cases b <;> simp_all

end Go.Proofs.YtojjenclcidnkaaDoor
