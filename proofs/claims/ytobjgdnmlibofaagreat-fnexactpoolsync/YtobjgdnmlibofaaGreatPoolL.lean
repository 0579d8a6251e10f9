/-
  Stores in boxes through marks and calls: what the laws on stores have in common.
-/
import Derived.Test.YtobjgdnmlibofaaGreatPoolHd
set_option maxRecDepth 100000
namespace Go.Proofs.Palim
open Go Go.RowKit
section
variable {P : Program} {w : World}
theorem wpList_wanted {ops : Array Oper} {rest : List Oper} {o : Oper} {a : Act} {Q : Exit → Act → World → Prop} (hw : Region.wanted o (yielded ops a.tmps) = true)
    (h : ∀ K : Act → World → Prop, (∀ a w, wpList P ops Q rest a w → K a w) → o.wp P a w K Q) : wpList P ops Q (o :: rest) a w :=
  wpList_step fun K hK => by rw [if_pos hw]; exact h K hK
theorem wpList_load_boxG {ops : Array Oper} {rest : List Oper} {o : Oper} {a : Act} {Q : Exit → Act → World → Prop} (hw : Region.wanted o (yielded ops a.tmps) = true) {ty : TypeId} (x : Operand) (ho : o.op = .load ty x) {k b : Nat} (hA : Agg P ty k)
    (hx : a.eval x = .pointer (some ⟨b, 0, none⟩)) (cs : List Value) (hk : cs.length = k) (hB : Box w b cs)
    (h : wpList P ops Q rest (a.put o.dst (.agg cs.toArray)) w) : wpList P ops Q (o :: rest) a w :=
  wpList_wanted hw fun _ hK => wp_load_cs x ho hA hx cs hk hB.cells (hK _ _ h)
end
end Go.Proofs.Palim
namespace Go.Proofs.YtobjgdnmlibofaaGreat
open Go.ChangeShapes Go.WideShapes Go.ChangeAt Go.RowKit Go.Proofs.Palim

theorem PoolR.lt {w : World} {v : PV} {p : PoolM} (h : PoolR w v p) : ∀ b, PTurns v b → b < w.heap.size := by
  rintro b ((e | e | e) | (e | e | e | e))
  · exact h.d.l0 b e
  · exact h.d.l1 b e
  · exact h.d.ll b e
  · exact h.c.ls b e
  · exact h.c.ld b e
  · exact h.c.lp b e
  · exact h.c.li b e
theorem PoolR.keptT {w w' : World} {v : PV} {p : PoolM} (h : PoolR w v p) (hs : w.heap.size ≤ w'.heap.size) (hb : ∀ b, PTurns v b → w'.heap[b]? = w.heap[b]?) : PoolR w' v p :=
  ⟨⟨h.d.r0.kept fun b e => hb b (Or.inl (Or.inl e)), h.d.r1.kept fun b e => hb b (Or.inl (Or.inr (Or.inl e))), h.d.rl.kept fun b e => hb b (Or.inl (Or.inr (Or.inr e))), h.d.l0.mono hs, h.d.l1.mono hs, h.d.ll.mono hs⟩,
   ⟨h.c.s.kept fun b e => hb b (Or.inr (Or.inl e)), h.c.d.kept fun b e => hb b (Or.inr (Or.inr (Or.inl e))), h.c.p.kept fun b e => hb b (Or.inr (Or.inr (Or.inr (Or.inl e)))), h.c.i.kept fun b e => hb b (Or.inr (Or.inr (Or.inr (Or.inr e)))), h.c.ls.mono hs, h.c.ld.mono hs, h.c.lp.mono hs, h.c.li.mono hs⟩⟩
theorem PoolR.one {w : World} {v : PV} {p : PoolM} (h : PoolR w v p) : ∀ u ∈ v.cells p, u.oneCell' = true := by
  obtain ⟨v0, v1, vl, vs, vd, vp, vi⟩ := v
  obtain ⟨_, A0, c0, e0, _⟩ := h.d.r0
  obtain ⟨_, A1, c1, e1, _⟩ := h.d.r1
  obtain ⟨_, A2, c2, e2, _⟩ := h.d.rl
  obtain ⟨A3, c3, A4, c4, A5, c5, A6, c6, e3, e4, e5, e6⟩ := h.c.forms
  simp only at e0 e1 e2 e3 e4 e5 e6
  subst e0 e1 e2 e3 e4 e5 e6
  simp [Value.oneCell']
theorem PBox.put {w w' : World} {x y : Nat} {v : PV} {p : PoolM} (h : PBox w x v p) (hp : PutAt y w w') (hx : x ≠ y) (hy : ∀ b, PTurns v b → b ≠ y) : PBox w' x v p :=
  ⟨hp.box hx h.box, h.reads.keptT (Nat.le_of_eq hp.size.symm) fun b e => hp.block b (hy b e)⟩
theorem PBox.turned {S : Nat → Prop} {w w' : World} {x : Nat} {v : PV} {p : PoolM} (h : PBox w x v p) (ht : Turned S w w') (hx : ¬ S x) (hv : ∀ b, PTurns v b → ¬ S b) : PBox w' x v p :=
  ⟨h.box.turned ht hx, h.reads.keptT ht.size fun b e => ht.block b (h.reads.lt b e) (hv b e)⟩
theorem putAt_new {w w' : World} {o : Obj} (h : PutAt w.heap.size (w.alloc o) w') : Below w.heap.size w w' := h.below ((Below.refl _ w).alloc (Nat.le_refl _) _) (Nat.le_refl _)
/-- What a store that came in keeps to. -/
structure PoolFits (p : PoolM) : Prop where
  z0 : ∀ s ∈ p.disk.s0, s.size ≤ maxLen
  z1 : ∀ s ∈ p.disk.s1, s.size ≤ maxLen
  zl : ∀ x ∈ p.disk.late, x.text.size ≤ maxLen
  c : CoreFits p.core
end Go.Proofs.YtobjgdnmlibofaaGreat
