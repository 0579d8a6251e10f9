/-
  Sets compared by Go's own == and !=.
-/
import Derived.Test.YtobjgdnmlibofaaData
import Derived.Laws.StructEq
set_option maxRecDepth 100000
namespace Go.Proofs.Ytobjgdnmlibofaa
open Go.ChangeShapes Go.WideShapes Go.ChangeAt Go.RowKit Go.Proofs.Palim

theorem bytes_beq (a b : ByteArray) : (a == b) = decide (a = b) := by
  rw [beq_toListBytes, ByteArray.toList_eq, ByteArray.toList_eq]
  by_cases h : a = b
  · subst h; simp
  · rw [decide_eq_false h]
    refine beq_eq_false_iff_ne.2 fun e => h ?_
    obtain ⟨⟨x⟩⟩ := a
    obtain ⟨⟨y⟩⟩ := b
    exact congrArg (fun l => (⟨⟨l⟩⟩ : ByteArray)) e
theorem set_eq {a b : SetM} : a = b ↔ a.name = b.name ∧ a.kind = b.kind ∧ a.frm = b.frm ∧ a.bs = b.bs := by
  cases a; cases b
  simp [SetM.bs]
instance : DecidableEq SetM := fun a b => decidable_of_iff _ set_eq.symm
end Go.Proofs.Ytobjgdnmlibofaa
