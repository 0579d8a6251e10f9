/-
  One box written in its middle: the world behind it, told by what it leaves alone.
-/
import Derived.Test.YtobjgdnmlibofaaGreatBig
set_option maxRecDepth 100000
namespace Go.Proofs.Palim
open Go Go.RowKit

theorem Box.midAt {w : World} {b : Nat} {cs : List Value} (h : Box w b cs) (p m q : List Value) (off : Nat) (he : cs = p ++ m ++ q) (hp : p.length = off) : ∀ j u, m[j]? = some u → w.cell? ⟨b, off + j, none⟩ = some u := by
  subst he hp
  intro j u hu
  refine h.cell (p.length + j) ?_
  have hj : j < m.length := (List.getElem?_eq_some_iff.1 hu).1
  rw [List.append_assoc, List.getElem?_append_right (by omega), List.getElem?_append_left (by omega), show p.length + j - p.length = j by omega, hu]
theorem Box.putMid {w : World} {b : Nat} {cs cs' : List Value} (h : Box w b cs) (p old q vs : List Value) (off : Nat) (he : cs = p ++ old ++ q) (hp : p.length = off) (hl : old.length = vs.length) (he' : cs' = p ++ vs ++ q) : Box (putC w b off vs) b cs' := by
  subst he hp he'
  exact Box.putC_mid vs w b p old q h hl
/-- Nothing but block b has changed. -/
structure PutAt (b : Nat) (w w' : World) : Prop where
  os : w'.os = w.os
  tape : w'.tape = w.tape
  output : w'.output = w.output
  size : w'.heap.size = w.heap.size
  block : ∀ k, k ≠ b → w'.heap[k]? = w.heap[k]?
theorem putAt_putC (w : World) (b off : Nat) (vs : List Value) : PutAt b w (putC w b off vs) :=
  ⟨(putC_same vs w b off).1, (putC_same vs w b off).2.1, (putC_same vs w b off).2.2, putC_size vs w b off, fun k hk => putC_heap vs w b off k hk⟩
theorem putAt_setCell (w : World) (b off : Nat) (v : Value) : PutAt b w (w.setCell ⟨b, off, none⟩ v) := by
  have h := putAt_putC w b off [v]
  exact h
theorem PutAt.box {b x : Nat} {w w' : World} {vs : List Value} (h : PutAt b w w') (hx : x ≠ b) (hB : Box w x vs) : Box w' x vs := hB.kept (h.block x hx)
theorem PutAt.below {B b : Nat} {w0 w w' : World} (h : PutAt b w w') (hB : Below B w0 w) (hb : B ≤ b) : Below B w0 w' :=
  ⟨h.os.trans hB.os, h.tape.trans hB.tape, h.output.trans hB.output, by rw [h.size]; exact hB.size, fun k hk => (h.block k (by omega)).trans (hB.block k hk)⟩
theorem PutAt.turned {S : Nat → Prop} {b : Nat} {w0 w w' : World} (h : PutAt b w w') (hT : Turned S w0 w) (hb : S b) : Turned S w0 w' :=
  ⟨h.os.trans hT.os, h.tape.trans hT.tape, h.output.trans hT.output, by rw [h.size]; exact hT.size, fun k hk hn => (h.block k (fun e => hn (e ▸ hb))).trans (hT.block k hk hn)⟩

section
variable {P : Program} {w : World}
theorem wpList_take_mid {ops : Array Oper} {rest : List Oper} {o : Oper} {a : Act} {Q : Exit → Act → World → Prop} (hgd : o.guard = none) {ty : TypeId} (x : Operand) (ho : o.op = .load ty x) {k b off : Nat} (hA : Agg P ty k)
    (hx : a.eval x = .pointer (some ⟨b, off, none⟩)) {cs : List Value} (hB : Box w b cs) (p m q : List Value) (he : cs = p ++ m ++ q) (hp : p.length = off) (hk : m.length = k)
    (h : wpList P ops Q rest (a.put o.dst (.agg m.toArray)) w) : wpList P ops Q (o :: rest) a w :=
  wpList_load_cs hgd x ho hA hx m hk (hB.midAt p m q off he hp) h
theorem wp_put_mid {o : Oper} {a : Act} {K : Act → World → Prop} {Q : Exit → Act → World → Prop} {ty : TypeId} (x y : Operand) (ho : o.op = .store ty x y) (hd : o.dst = none) {k b off : Nat} (hA : Agg P ty k)
    (hx : a.eval x = .pointer (some ⟨b, off, none⟩)) (vs : List Value) (hy : a.eval y = .agg vs.toArray) (hk : vs.length = k) (h1 : ∀ v ∈ vs, v.oneCell' = true)
    {cs : List Value} (hB : Box w b cs) (p old q cs' : List Value) (he : cs = p ++ old ++ q) (hp : p.length = off) (hl : old.length = vs.length) (he' : cs' = p ++ vs ++ q)
    (h : ∀ w', PutAt b w w' → Box w' b cs' → K a w') : o.wp P a w K Q :=
  wp_store_cs x y ho hd hA hx vs hy hk h1 (hB.may off vs.length (by subst he hp; simp; omega)) (h _ (putAt_putC w b off vs) (hB.putMid p old q vs off he hp hl he'))
theorem wpList_put_mid {ops : Array Oper} {rest : List Oper} {o : Oper} {a : Act} {Q : Exit → Act → World → Prop} (hgd : o.guard = none) {ty : TypeId} (x y : Operand) (ho : o.op = .store ty x y) (hd : o.dst = none) {k b off : Nat} (hA : Agg P ty k)
    (hx : a.eval x = .pointer (some ⟨b, off, none⟩)) (vs : List Value) (hy : a.eval y = .agg vs.toArray) (hk : vs.length = k) (h1 : ∀ v ∈ vs, v.oneCell' = true)
    {cs : List Value} (hB : Box w b cs) (p old q cs' : List Value) (he : cs = p ++ old ++ q) (hp : p.length = off) (hl : old.length = vs.length) (he' : cs' = p ++ vs ++ q)
    (h : ∀ w', PutAt b w w' → Box w' b cs' → wpList P ops Q rest a w') : wpList P ops Q (o :: rest) a w :=
  wpList_plain hgd fun _ hK => wp_put_mid x y ho hd hA hx vs hy hk h1 hB p old q cs' he hp hl he' fun w' h2 h3 => hK _ _ (h w' h2 h3)
end
end Go.Proofs.Palim
