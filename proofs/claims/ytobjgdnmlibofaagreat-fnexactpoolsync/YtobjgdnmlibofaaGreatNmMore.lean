/-
  One more set in a book that is being made in a box.
-/
import Derived.Test.YtobjgdnmlibofaaGreatCoreD
import Derived.Test.YtobjgdnmlibofaaGreatApp
import Derived.Test.YtobjgdnmlibofaaGreatBookBox
set_option maxRecDepth 100000
namespace Go.Proofs.YtobjgdnmlibofaaGreat
open Go.ChangeShapes Go.WideShapes Go.ChangeAt Go.RowKit Go.Proofs.Palim

structure NmMore (w w4 w5 w6 : World) (xb : Nat) (old new : Value) (k : Nat) (ys : List Value) : Prop where
  c0 : w5.cell? ⟨xb, 0, none⟩ = some old
  f0 : w5.frozen? ⟨xb, 0, none⟩ = false
  box : Box w6 xb [new]
  own : w6.ownsRow w.heap.size 140 11 new k ys
  below : Below w.heap.size w w6
  hi : ∀ b, new.ownBlock = some b → xb < b
  low : ∀ g, g < xb → w6.heap[g]? = w4.heap[g]?
  size : w4.heap.size ≤ w6.heap.size
theorem nm_more {w w4 w5 : World} {xb : Nat} {D A2 : Option Addr} {k cap cap2 : Nat} {ys : List Value} (hx : Box w4 xb [.slice D k cap]) (hg : w4.grownBy w5 (Value.slice D k cap).ownBlock) (hK : ∀ b, (Value.slice D k cap).ownBlock = some b → xb < b) (hB : Below w.heap.size w w4) (hxb : w.heap.size ≤ xb)
    (hown : w5.ownsRow w.heap.size 140 11 (.slice A2 (k + 1) cap2) (k + 1) ys) (hloc : (Value.slice A2 (k + 1) cap2).ownBlock = (Value.slice D k cap).ownBlock ∨ (Value.slice A2 (k + 1) cap2).ownBlock = some w4.heap.size) :
    NmMore w w4 w5 (w5.setCell ⟨xb, 0, none⟩ (.slice A2 (k + 1) cap2)) xb (.slice D k cap) (.slice A2 (k + 1) cap2) (k + 1) ys := by
  have hxl := hx.lt
  have hhi : ∀ b, (Value.slice A2 (k + 1) cap2).ownBlock = some b → xb < b := fun b e => by
    rcases hloc with h | h
    · rw [h] at e; exact hK b e
    · rw [h] at e; have := Option.some.inj e; omega
  have hkeep : ∀ g, g ≤ xb → w5.heap[g]? = w4.heap[g]? := fun g hgx => hg.block g (by omega) (fun e => by have := hK g e.symm; omega)
  have h5 := hx.kept (hkeep xb (Nat.le_refl _))
  refine ⟨h5.cell 0 rfl, h5.open_ 0, h5.set 0 _, own_kept hown (fun b e => Below.heap_setCell w5 _ _ b (fun e2 => by have := hhi b e; simp only at e2; omega)), ?_, hhi, fun g hgx => ?_, ?_⟩
  · exact (hB.grown hg hB.size (fun b e => by have := hK b e; omega)).setCell (p := ⟨xb, 0, none⟩) hxb _
  · rw [Below.heap_setCell w5 _ _ g (fun e2 => by simp only at e2; omega)]
    exact hkeep g (by omega)
  · have := hg.size
    simp [World.setCell]
    exact this
end Go.Proofs.YtobjgdnmlibofaaGreat
