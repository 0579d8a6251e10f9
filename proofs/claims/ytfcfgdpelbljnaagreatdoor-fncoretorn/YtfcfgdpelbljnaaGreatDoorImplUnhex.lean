/-
  The program's reader of hexadecimals: what its inner reader panics with is recovered.
-/
import Derived.Test.YtfcfgdpelbljnaaGreatDoorSumBytes
import Derived.WalkKit
import Derived.ProofKit
import Derived.Lib.Hide
import Derived.WalkSpells
import Derived.WalkSmall
import Derived.Defers
import Derived.Recover
import Derived.Laws.Pointers
set_option maxRecDepth 100000
namespace Go.Proofs.YtfcfgdpelbljnaaGreatDoor
open Go.ChangeShapes Go.WideShapes Go.ChangeAt Go.RowKit Go.Proofs.Palim

def UnhexPost (s : ByteArray) (w : World) (e : Ending) (w' : World) : Prop :=
  Below w.heap.size w w' ∧ ((∃ o, unhex s.data.toList = some o ∧ e = .returned (.tuple #[.string ⟨o.toArray⟩, .bool true])) ∨ (unhex s.data.toList = none ∧ e = .returned (.tuple #[.string ⟨#[]⟩, .bool false])))

/-- Two named results that a closure captures lie in two new blocks. -/
theorem two_new (w : World) (x y : Value) (t u : TypeId) : let W := (w.alloc (.cells #[x] t)).alloc (.cells #[y] u)
    W.cell? ⟨w.heap.size, 0, none⟩ = some x ∧ W.frozen? ⟨w.heap.size, 0, none⟩ = false ∧ W.cell? ⟨w.heap.size + 1, 0, none⟩ = some y ∧ W.frozen? ⟨w.heap.size + 1, 0, none⟩ = false ∧
    W.heap.size = w.heap.size + 2 ∧ Below w.heap.size w W := by
  refine ⟨by simp [go_sem], by simp [go_sem], by simp [go_sem], by simp [go_sem], by simp, ((Below.refl _ _).alloc (Nat.le_refl _) _).alloc (by simp) _⟩

end Go.Proofs.YtfcfgdpelbljnaaGreatDoor
