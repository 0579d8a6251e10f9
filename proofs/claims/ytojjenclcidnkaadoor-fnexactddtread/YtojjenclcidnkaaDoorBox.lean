/-
  Boxes: blocks of a call's own that hold a variable, cell by cell.
-/
import Derived.Test.YtojjenclcidnkaaDoorMem
set_option maxRecDepth 100000
namespace Go.Proofs.Palim
open Go Go.RowKit

/-- Block b holds these cells, and they may be written. -/
def Box (w : World) (b : Nat) (vs : List Value) : Prop := ∃ c e, w.heap[b]? = some (.cells c e (0, 0)) ∧ c.toList = vs
theorem Box.cell {w : World} {b : Nat} {vs : List Value} (h : Box w b vs) (k : Nat) {u : Value} (hu : vs[k]? = some u) : w.cell? ⟨b, k, none⟩ = some u := by
  obtain ⟨c, e, hb, rfl⟩ := h
  simp only [World.cell?, hb]
  simpa using hu
theorem Box.open_ {w : World} {b : Nat} {vs : List Value} (h : Box w b vs) (k : Nat) : w.frozen? ⟨b, k, none⟩ = false := by
  obtain ⟨c, e, hb, rfl⟩ := h
  simp [World.frozen?, hb]
theorem Box.lt {w : World} {b : Nat} {vs : List Value} (h : Box w b vs) : b < w.heap.size := by
  obtain ⟨c, e, hb, _⟩ := h
  exact (Array.getElem?_eq_some_iff.1 hb).1
theorem Box.kept {w w' : World} {b : Nat} {vs : List Value} (h : Box w b vs) (hk : w'.heap[b]? = w.heap[b]?) : Box w' b vs := by
  obtain ⟨c, e, hb, hv⟩ := h
  exact ⟨c, e, hk.trans hb, hv⟩
theorem Box.below {w w' : World} {b B : Nat} {vs : List Value} (h : Box w b vs) (hb : Below B w w') (hB : b < B) : Box w' b vs := h.kept (hb.block b hB)
theorem Box.turned {S : Nat → Prop} {w w' : World} {b : Nat} {vs : List Value} (h : Box w b vs) (ht : Turned S w w') (hS : ¬ S b) : Box w' b vs := h.kept (ht.block b h.lt hS)
theorem Box.other {w : World} {b : Nat} {vs : List Value} (h : Box w b vs) {p : Addr} (hp : b ≠ p.block) (u : Value) : Box (w.setCell p u) b vs := h.kept (Below.heap_setCell w p u b hp)
theorem Box.set {w : World} {b : Nat} {vs : List Value} (h : Box w b vs) (k : Nat) (u : Value) : Box (w.setCell ⟨b, k, none⟩ u) b (vs.set k u) := by
  obtain ⟨c, e, hb, rfl⟩ := h
  refine ⟨c.setIfInBounds k u, e, ?_, by rw [Array.toList_setIfInBounds]⟩
  simp [World.setCell, Array.getElem?_modify, hb]
theorem Box.drewN {w : World} {b : Nat} {vs : List Value} (h : Box w b vs) (q : Nat) : Box (w.drewN q) b vs := h
theorem Box.drew {w : World} {b : Nat} {vs : List Value} (h : Box w b vs) : Box w.drew b vs := h
theorem box_new (w : World) (c : Array Value) (e : Nat) : Box (w.alloc (.cells c e)) w.heap.size c.toList := ⟨c, e, by show (w.heap.push (.cells c e))[w.heap.size]? = _; simp, rfl⟩
theorem Box.alloc {w : World} {b : Nat} {vs : List Value} (h : Box w b vs) (o : Obj) : Box (w.alloc o) b vs := h.kept (Below.heap_alloc w o b h.lt)
/-- Two and three cells read out. -/
theorem Box.two {w : World} {b : Nat} {x y : Value} (h : Box w b [x, y]) : w.cell? ⟨b, 0, none⟩ = some x ∧ w.cell? ⟨b, 1, none⟩ = some y := ⟨h.cell 0 rfl, h.cell 1 rfl⟩
theorem Box.three {w : World} {b : Nat} {x y z : Value} (h : Box w b [x, y, z]) : w.cell? ⟨b, 0, none⟩ = some x ∧ w.cell? ⟨b, 1, none⟩ = some y ∧ w.cell? ⟨b, 2, none⟩ = some z := ⟨h.cell 0 rfl, h.cell 1 rfl, h.cell 2 rfl⟩
theorem box1 (w : World) (c0 : Array Value) (e0 : Nat) : Box (w.alloc (.cells c0 e0)) w.heap.size c0.toList ∧ (w.alloc (.cells c0 e0)).heap.size = w.heap.size + 1 ∧ Below w.heap.size w (w.alloc (.cells c0 e0)) :=
  ⟨box_new _ _ _, by simp, (Below.refl _ _).alloc (Nat.le_refl _) _⟩
theorem box2 (w : World) (c0 c1 : Array Value) (e0 e1 : Nat) : Box ((w.alloc (.cells c0 e0)).alloc (.cells c1 e1)) w.heap.size c0.toList ∧ Box ((w.alloc (.cells c0 e0)).alloc (.cells c1 e1)) (w.heap.size + 1) c1.toList ∧ ((w.alloc (.cells c0 e0)).alloc (.cells c1 e1)).heap.size = w.heap.size + 2 ∧ Below w.heap.size w ((w.alloc (.cells c0 e0)).alloc (.cells c1 e1)) :=
  ⟨(box_new _ _ _).alloc _, by simpa using box_new (w.alloc (.cells c0 e0)) c1 e1, by simp, ((Below.refl _ _).alloc (Nat.le_refl _) _).alloc (by simp) _⟩
theorem box3 (w : World) (c0 c1 c2 : Array Value) (e0 e1 e2 : Nat) : Box (((w.alloc (.cells c0 e0)).alloc (.cells c1 e1)).alloc (.cells c2 e2)) w.heap.size c0.toList ∧ Box (((w.alloc (.cells c0 e0)).alloc (.cells c1 e1)).alloc (.cells c2 e2)) (w.heap.size + 1) c1.toList ∧ Box (((w.alloc (.cells c0 e0)).alloc (.cells c1 e1)).alloc (.cells c2 e2)) (w.heap.size + 1 + 1) c2.toList ∧ (((w.alloc (.cells c0 e0)).alloc (.cells c1 e1)).alloc (.cells c2 e2)).heap.size = w.heap.size + 3 ∧ Below w.heap.size w (((w.alloc (.cells c0 e0)).alloc (.cells c1 e1)).alloc (.cells c2 e2)) :=
  ⟨(box2 w c0 c1 e0 e1).1.alloc _, (box2 w c0 c1 e0 e1).2.1.alloc _, by simpa using box_new ((w.alloc (.cells c0 e0)).alloc (.cells c1 e1)) c2 e2, by simp, (box2 w c0 c1 e0 e1).2.2.2.alloc (by simp; omega) _⟩
/-- Two values whose blocks are not one. -/
def Apart (a b : Value) : Prop := ∀ g, a.ownBlock = some g → b.ownBlock ≠ some g
theorem Apart.symm {a b : Value} (h : Apart a b) : Apart b a := fun g e e' => h g e' e
end Go.Proofs.Palim
