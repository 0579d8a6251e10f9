/-
  Books in boxes: what a law's variables are.
-/
import Derived.Test.YtojjenclcidnkaaDoorBookV
set_option maxRecDepth 100000
namespace Go.Proofs.YtojjenclcidnkaaDoor
open Go.ChangeShapes Go.WideShapes Go.ChangeAt Go.RowKit Go.Proofs.Palim

/-- A book in a box of its own, its blocks below B. -/
structure BBox (w : World) (x B : Nat) (v : Value) (ls : List SetM) : Prop where
  box : Box w x [v]
  low : ∀ b, v.ownBlock = some b → b < B
  reads : BookR w v ls
  lt : B ≤ x
theorem BBox.below {w w' : World} {x B : Nat} {v : Value} {ls : List SetM} (h : BBox w x B v ls) (hb : Below w.heap.size w w') : BBox w' x B v ls := ⟨h.box.below hb h.box.lt, h.low, h.reads.below hb (Nat.le_refl _), h.lt⟩
theorem bbox_new {w : World} {v : Value} {ls : List SetM} (h : BookR w v ls) (e : Nat) : BBox (w.alloc (.cells #[v] e)) w.heap.size w.heap.size v ls :=
  ⟨box_new _ _ _, h.l, h.below (Below.new1 _) (Nat.le_refl _), Nat.le_refl _⟩
theorem BookR.drew {w : World} {v : Value} {ls : List SetM} (h : BookR w v ls) : BookR w.drew v ls := ⟨h.r, h.l⟩
theorem BBox.drew {w : World} {x B : Nat} {v : Value} {ls : List SetM} (h : BBox w x B v ls) : BBox w.drew x B v ls := ⟨h.box, h.low, h.reads.drew, h.lt⟩
theorem BBox.cell {w : World} {x B : Nat} {v : Value} {ls : List SetM} (h : BBox w x B v ls) : w.cell? ⟨x, 0, none⟩ = some v := h.box.cell 0 rfl
theorem below_drewB (w : World) : Below w.heap.size w w.drew := (Below.refl _ _).drew
end Go.Proofs.YtojjenclcidnkaaDoor
