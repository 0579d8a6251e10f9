/-
  spec's l2Copy: a disk in new memory.
-/
import Derived.Test.YtgjlhokakcdpbaaDoorBase
import Derived.Test.YtgjlhokakcdpbaaDoorFresh
set_option maxRecDepth 100000
namespace Go.Proofs.YtgjlhokakcdpbaaDoor
open Go.ChangeShapes Go.WideShapes Go.ChangeAt Go.RowKit Go.Proofs.Palim

/-- What stays so while l2Copy's one region runs. -/
structure Reg (w : World) (v0 v1 vl : Value) (w' : World) : Prop where
  below : Below w.heap.size w w'
  box : Box w' w.heap.size [v0, v1, vl]
theorem Reg.drew {w w' : World} {v0 v1 vl : Value} (h : Reg w v0 v1 vl w') : Reg w v0 v1 vl w'.drew := ⟨h.below.drew, h.box⟩
theorem Reg.alloc {w w' : World} {v0 v1 vl : Value} (h : Reg w v0 v1 vl w') (o : Obj) : Reg w v0 v1 vl (w'.alloc o) := ⟨h.below.alloc h.below.size o, h.box.alloc o⟩
theorem Reg.setCell {w w' : World} {v0 v1 vl : Value} (h : Reg w v0 v1 vl w') (k : Nat) (u : Value) : Reg w v0 v1 vl (w'.setCell ⟨w.heap.size + 1, k, none⟩ u) := ⟨h.below.setCell (by simp) u, h.box.other (by simp) u⟩
theorem Reg.grown {w w' w2 : World} {v0 v1 vl : Value} {row : Option Nat} (h : Reg w v0 v1 vl w') (hg : w'.grownBy w2 row) (hr : ∀ g, row = some g → w.heap.size + 2 ≤ g) : Reg w v0 v1 vl w2 :=
  ⟨h.below.grown hg h.below.size (fun k e => by have := hr k e; omega), h.box.kept (hg.block _ h.box.lt (fun e => by have := hr _ e.symm; omega))⟩
theorem box_grown {w' w2 : World} {b B : Nat} {vs : List Value} {row : Option Nat} (h : Box w' b vs) (hg : w'.grownBy w2 row) (hr : ∀ g, row = some g → B ≤ g) (hb : b < B) : Box w2 b vs :=
  h.kept (hg.block _ h.lt (fun e => by have := hr _ e.symm; omega))
theorem Reg.all {w w' : World} {v0 v1 vl : Value} (h : Reg w v0 v1 vl w') : w'.cell? ⟨w.heap.size, 0, none⟩ = some v0 ∧ w'.cell? ⟨w.heap.size, 1, none⟩ = some v1 ∧ w'.cell? ⟨w.heap.size, 2, none⟩ = some vl ∧ Reg w v0 v1 vl w' := ⟨h.box.cell 0 rfl, h.box.cell 1 rfl, h.box.cell 2 rfl, h⟩

/-- Block g is empty, of elements e. -/
def At (w : World) (g e : Nat) : Prop := w.heap[g]? = some (.cells #[] e)
theorem At.drew {w : World} {g e : Nat} (h : At w g e) : At w.drew g e := h
theorem At.lt {w : World} {g e : Nat} (h : At w g e) : g < w.heap.size := (Array.getElem?_eq_some_iff.1 h).1
theorem At.alloc {w : World} {g e : Nat} (h : At w g e) (o : Obj) : At (w.alloc o) g e := (Below.heap_alloc w o g h.lt).trans h
theorem At.new {w : World} {g e : Nat} (h : w.heap.size = g) : At (w.alloc (.cells #[] e)) g e := by
  subst h
  show (w.heap.push _)[w.heap.size]? = _
  exact Array.getElem?_push_size
theorem At.grown {w w2 : World} {g g' e : Nat} (h : At w g e) (hk : ∀ k, k < w.heap.size → k ≠ g' → w2.heap[k]? = w.heap[k]?) (hne : g ≠ g') : At w2 g e := (hk g h.lt hne).trans h

theorem own_empty {w : World} {base e sz g : Nat} (h : At w g e) (hb : base ≤ g) : w.ownsRow base e sz (.slice (some ⟨g, 0, none⟩) 0 0) 0 [] := by
  simpa using own_new (sz := sz) (n := 0) h (by simp) (Nat.zero_le _) hb
theorem scs_one (ss : List ByteArray) : ∀ u ∈ scs ss, u.oneCell' = true := by
  intro u hu
  obtain ⟨s, _, rfl⟩ := List.mem_map.1 hu
  rfl
theorem lcs_one (ls : List LateM) : ∀ u ∈ lcs ls, u.oneCell' = true := by
  intro u hu
  obtain ⟨l, _, h⟩ := List.mem_flatMap.1 hu
  simp [lc] at h
  rcases h with rfl | rfl | rfl <;> rfl

/-- The block of an answer of append: the old one, or the one that is made now. -/
theorem loc {A : Option Addr} {n cap g s b : Nat} (ha : (Value.slice A n cap).ownBlock = (Value.slice (some ⟨g, 0, none⟩) 0 0).ownBlock ∨ (Value.slice A n cap).ownBlock = some s) (e : (Value.slice A n cap).ownBlock = some b) : b = g ∨ b = s := by
  rcases ha with h | h
  · left; rw [e] at h; simpa [Value.ownBlock] using h
  · right; rw [e] at h; simpa using h
theorem grown_from {w1 W w2 : World} {g : Nat} (hW : Below w1.heap.size w1 W) (hg : W.grownBy w2 (Value.slice (some ⟨g, 0, none⟩) 0 0).ownBlock) : (∀ b, b < w1.heap.size → b ≠ g → w2.heap[b]? = w1.heap[b]?) ∧ W.heap.size ≤ w2.heap.size ∧ w1.heap.size ≤ W.heap.size :=
  ⟨fun b hb hne => (hg.block b (Nat.lt_of_lt_of_le hb hW.size) (fun e => hne (by simpa [Value.ownBlock] using e))).trans (hW.block b hb), hg.size, hW.size⟩
theorem grown_kept {W w2 : World} {g : Nat} (hg : W.grownBy w2 (Value.slice (some ⟨g, 0, none⟩) 0 0).ownBlock) : ∀ k, k < W.heap.size → k ≠ g → w2.heap[k]? = W.heap[k]? :=
  fun k hk hne => hg.block k hk (fun e => hne (by simpa [Value.ownBlock] using e))

end Go.Proofs.YtgjlhokakcdpbaaDoor
