/-
  What the laws with a disk and a pointer keep while a region draws its order: the two boxes of the arguments; and a disk in a box of its own.
-/
import Derived.Test.YtfacbjldpenpjaaDoorDiskLaw
import Derived.Test.YtfacbjldpenpjaaDoorDiskWrite
import Derived.Test.YtfacbjldpenpjaaDoorPtr
import Derived.Deep.CutRange
import Derived.Deep.RegionHeld3
set_option maxRecDepth 100000
namespace Go.Proofs.YtfacbjldpenpjaaDoor
open Go.ChangeShapes Go.WideShapes Go.ChangeAt Go.RowKit Go.Proofs.Palim

/-- The arguments' boxes, and nothing older has turned; since the world w0 nothing below C has turned. -/
structure Lw (w w0 w' : World) (C : Nat) (v0 v1 vl : Value) (p : PtrM) : Prop where
  xd : Box w' w.heap.size [v0, v1, vl]
  xp : Box w' (w.heap.size + 1) [.int .i64 p.at_, .int .i64 p.sum, .int .i64 p.birth]
  bl : Below w.heap.size w w'
  bs : Below C w0 w'
  hC : C ≤ w'.heap.size
theorem Lw.on {w w0 w' w2 : World} {C : Nat} {v0 v1 vl : Value} {p : PtrM} (h : Lw w w0 w' C v0 v1 vl p) (hb : Below w'.heap.size w' w2) : Lw w w0 w2 C v0 v1 vl p :=
  ⟨h.xd.below hb h.xd.lt, h.xp.below hb h.xp.lt, h.bl.trans (hb.mono h.bl.size), h.bs.trans (hb.mono h.hC), Nat.le_trans h.hC hb.size⟩
theorem Lw.set {w w0 w' : World} {C N : Nat} {v0 v1 vl : Value} {p : PtrM} (h : Lw w w0 w' C v0 v1 vl p) (hw : w.heap.size + 2 ≤ C) (hN : C ≤ N) (j : Nat) (u : Value) : Lw w w0 (w'.setCell ⟨N, j, none⟩ u) C v0 v1 vl p :=
  ⟨h.xd.other (by simp; omega) u, h.xp.other (by simp; omega) u, h.bl.setCell (by simp; omega) u, h.bs.setCell hN u, by have := h.hC; simpa using this⟩
theorem Lw.set3 {w w0 w' : World} {C N : Nat} {v0 v1 vl : Value} {p : PtrM} (h : Lw w w0 w' C v0 v1 vl p) (hw : w.heap.size + 2 ≤ C) (hN : C ≤ N) (u0 u1 u2 : Value) : Lw w w0 (((w'.setCell ⟨N, 0, none⟩ u0).setCell ⟨N, 1, none⟩ u1).setCell ⟨N, 2, none⟩ u2) C v0 v1 vl p :=
  ((h.set hw hN 0 u0).set hw hN 1 u1).set hw hN 2 u2
theorem Lw.anew {w w0 w' : World} {C : Nat} {v0 v1 vl : Value} {p : PtrM} (h : Lw w w0 w' C v0 v1 vl p) : Lw w w' w' w'.heap.size v0 v1 vl p := ⟨h.xd, h.xp, h.bl, Below.refl _ _, Nat.le_refl _⟩
theorem Lw.drew {w w0 w' : World} {C : Nat} {v0 v1 vl : Value} {p : PtrM} (h : Lw w w0 w' C v0 v1 vl p) : Lw w w0 w'.drew C v0 v1 vl p := ⟨h.xd, h.xp, h.bl.drew, h.bs.drew, h.hC⟩
theorem Lw.reads {w w0 w' : World} {C : Nat} {v0 v1 vl : Value} {p : PtrM} {d : DiskM} (h : Lw w w0 w' C v0 v1 vl p) (hd : DiskR w v0 v1 vl d) : DiskR w' v0 v1 vl d := hd.below h.bl
/-- The boxes stand where a disk at or above B is marked. -/
theorem Lw.past {w w0 w' w2 : World} {C B : Nat} {v0 v1 vl u0 u1 ul : Value} {p : PtrM} {d' : DiskM} (h : Lw w w0 w' C v0 v1 vl p) (ht : Turned (DTurns u0 u1 ul) w' w2) (ho : DiskOwn w' B u0 u1 ul d') (hB : w.heap.size + 2 ≤ B) (hBw : B ≤ w'.heap.size) : Lw w w2 w2 w2.heap.size v0 v1 vl p :=
  ⟨h.xd.turned ht (ho.past (by omega)), h.xp.turned ht (ho.past (by omega)), h.bl.trans ((below_past ht ho hBw).mono (by omega)), Below.refl _ _, Nat.le_refl _⟩

/-- A disk of the call's own, at or above C, in a box of its own. -/
structure Res (wx : World) (C N : Nat) (s0 s1 sl : Value) (r : DiskM) : Prop where
  box : Box wx N [s0, s1, sl]
  own : DiskOwn wx C s0 s1 sl r
  nx : ¬ DTurns s0 s1 sl N
  hN : C ≤ N
theorem Res.below {w w' : World} {C N : Nat} {s0 s1 sl : Value} {r : DiskM} (h : Res w C N s0 s1 sl r) (hb : Below w.heap.size w w') : Res w' C N s0 s1 sl r := ⟨h.box.below hb h.box.lt, h.own.below hb, h.nx, h.hN⟩
theorem Res.past {w w' : World} {C N B : Nat} {s0 s1 sl u0 u1 ul : Value} {r d' : DiskM} (h : Res w C N s0 s1 sl r) (ht : Turned (DTurns u0 u1 ul) w w') (hl : DiskLow B s0 s1 sl) (hN : N < B) (ho : DiskOwn w B u0 u1 ul d') : Box w' N [s0, s1, sl] ∧ DiskR w' s0 s1 sl r :=
  ⟨h.box.turned ht (ho.past hN), h.own.reads.past ht hl ho⟩
/-- A disk stored into a box that lies apart from it. -/
theorem res_store {w' : World} {C N : Nat} {s0 s1 sl : Value} {cs : List Value} {r : DiskM} (hb : Box w' N cs) (hl : cs.length = 3) (ho : DiskOwn w' C s0 s1 sl r) (nx : ¬ DTurns s0 s1 sl N) (hN : C ≤ N) :
    Res (((w'.setCell ⟨N, 0, none⟩ s0).setCell ⟨N, 1, none⟩ s1).setCell ⟨N, 2, none⟩ sl) C N s0 s1 sl r := by
  have hk : ∀ b, b ≠ N → (((w'.setCell ⟨N, 0, none⟩ s0).setCell ⟨N, 1, none⟩ s1).setCell ⟨N, 2, none⟩ sl).heap[b]? = w'.heap[b]? := fun b hb => by
    rw [Below.heap_setCell _ _ _ _ hb, Below.heap_setCell _ _ _ _ hb, Below.heap_setCell _ _ _ _ hb]
  refine ⟨?_, ⟨own_kept ho.o0 fun b e => hk b (fun e' => nx (Or.inl (e' ▸ e))), own_kept ho.o1 fun b e => hk b (fun e' => nx (Or.inr (Or.inl (e' ▸ e)))), own_kept ho.ol fun b e => hk b (fun e' => nx (Or.inr (Or.inr (e' ▸ e)))), ho.p01, ho.p0l, ho.p1l⟩, nx, hN⟩
  match cs, hl with
  | [a, b, c], _ => exact ((hb.set 0 s0).set 1 s1).set 2 sl
end Go.Proofs.YtfacbjldpenpjaaDoor
