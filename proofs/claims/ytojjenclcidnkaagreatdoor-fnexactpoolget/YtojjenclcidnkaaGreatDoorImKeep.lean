/-
  What a round of a loop over an iterator keeps.
-/
import Derived.Test.YtojjenclcidnkaaGreatDoorBase
import Derived.Test.YtojjenclcidnkaaGreatDoorRows
import Derived.RangeFuncNested
import Derived.RangeFuncLeaves
import Derived.Shelf.Abstract
set_option maxRecDepth 100000
namespace Go.Proofs.YtojjenclcidnkaaGreatDoor
open Go.ChangeShapes Go.WideShapes Go.ChangeAt Go.RowKit Go.Proofs.Palim Go.Shelf

/-- What a round that goes on keeps: the blocks below N that are not S's. -/
structure KeepB (N : Nat) (S : Nat → Prop) (W W' : World) : Prop where
  size : W.heap.size ≤ W'.heap.size
  block : ∀ b, b < N → ¬ S b → W'.heap[b]? = W.heap[b]?
theorem KeepB.refl (N : Nat) (S : Nat → Prop) (W : World) : KeepB N S W W := ⟨Nat.le_refl _, fun _ _ _ => rfl⟩
theorem KeepB.trans {N : Nat} {S : Nat → Prop} {A B C : World} (h : KeepB N S A B) (k : KeepB N S B C) : KeepB N S A C := ⟨Nat.le_trans h.size k.size, fun b hb hn => (k.block b hb hn).trans (h.block b hb hn)⟩
theorem keepB_b {N : Nat} {S : Nat → Prop} {w : World} (hn : N ≤ w.heap.size) (W : World) (l : Nat) (o o' : Obj) (hl : w.heap.size ≤ l) (h : W.heap[l]? = some o) (_ : o.isCells = false) (_ : o.isWalk = false) : KeepB N S W (W.putObj l o') :=
  ⟨by simp, fun b hb _ => World.putObj_heap_other (by omega)⟩
theorem KeepB.of_below {N : Nat} {S : Nat → Prop} {W W' : World} (h : Below W.heap.size W W') (hN : N ≤ W.heap.size) : KeepB N S W W' := ⟨h.size, fun b hb _ => h.block b (by omega)⟩
theorem KeepB.of_turned {N : Nat} {S : Nat → Prop} {W W' : World} (h : Turned S W W') (hN : N ≤ W.heap.size) : KeepB N S W W' := ⟨h.size, fun b hb hn => h.block b (by omega) hn⟩
theorem leaves_two {fn : Func} {tmps : Array Value} {W : World} {R : Ending → World → Prop} {D : Nat} {n : Nat} {v : Value} (hK : W.heap[D]? = some (.deferred (some []))) (hr : (results fn tmps).run Tryz.prog (W.putObj D (.deferred none)) = .ok v (W.putObj D (.deferred none))) (h : R (.returned v) (W.putObj D (.deferred none))) :
    bodyPostM Fence.wide n Tryz.prog fn R .ret { tmps := tmps, defers := [{ target := .collected D, args := #[] }] } W :=
  ⟨by simp, .inl ⟨_, _, rfl, run_takeDeferred hK, ⟨_, hr, h⟩⟩⟩
end Go.Proofs.YtojjenclcidnkaaGreatDoor
