/-
  Aggregates of many cells: loads and stores of a whole box or of a row's element, told by the list of their cells.
-/
import Derived.Test.YtobjgdnmlibofaaGreatBox
import Derived.Laws.Rows
import Derived.Laws.Cells
import Derived.Laws.Tables
set_option maxRecDepth 100000
namespace Go.Proofs.Palim
open Go Go.RowKit

/-- A type of k cells that is an aggregate. -/
structure Agg (P : Program) (ty : TypeId) (k : Nat) : Prop where
  agg : ∀ w, (isAgg ty).run P w = .ok true w
  size : ∀ w, (Go.sizeOf ty).run P w = .ok k w

section
variable {P : Program} {w : World}
theorem run_loadVar_cs {ty : TypeId} {k b off : Nat} (hA : Agg P ty k) (cs : List Value) (hk : cs.length = k) (hc : ∀ j u, cs[j]? = some u → w.cell? ⟨b, off + j, none⟩ = some u) :
    (loadVar ty ⟨b, off, none⟩).run P w = .ok (.agg cs.toArray) w := by
  subst hk
  have hl := run_loadCells_list (P := P) w ⟨b, off, none⟩ cs (fun j v hv => by
    have hadd : (⟨b, off, none⟩ : Addr).add j = ⟨b, off + j, none⟩ := by unfold Addr.add; split <;> simp_all
    rw [hadd]; exact hc j v hv)
  simp [loadVar, Sem.run_bind, hA.agg, hA.size, hl]
theorem exec_load_cs {ev : Operand → Value} {o : Oper} {ty : TypeId} (x : Operand) (ho : o.op = .load ty x) {k b off : Nat} (hA : Agg P ty k) (hx : ev x = .pointer (some ⟨b, off, none⟩)) (cs : List Value) (hk : cs.length = k) (hc : ∀ j u, cs[j]? = some u → w.cell? ⟨b, off + j, none⟩ = some u) :
    (execOp ev o).run P w = .ok (.value (.agg cs.toArray)) w := by
  unfold execOp
  simp only [ho, hx, Instr.loadAt, Instr.sureAddr, Sem.run_bind, Sem.run_pure, Result.andThen_ok, run_loadVar_cs hA cs hk hc]
theorem wp_load_cs {o : Oper} {a : Act} {K : Act → World → Prop} {Q : Exit → Act → World → Prop} {ty : TypeId} (x : Operand) (ho : o.op = .load ty x) {k b off : Nat} (hA : Agg P ty k)
    (hx : a.eval x = .pointer (some ⟨b, off, none⟩)) (cs : List Value) (hk : cs.length = k) (hc : ∀ j u, cs[j]? = some u → w.cell? ⟨b, off + j, none⟩ = some u)
    (h : K (a.put o.dst (.agg cs.toArray)) w) : o.wp P a w K Q := by
  unfold Oper.wp execOp
  simp only [ho, hx, Instr.loadAt, Instr.sureAddr, Sem.run_bind, Sem.run_pure, Result.andThen_ok, run_loadVar_cs hA cs hk hc]
  exact h
theorem wpList_load_cs {ops : Array Oper} {rest : List Oper} {o : Oper} {a : Act} {Q : Exit → Act → World → Prop} (hgd : o.guard = none) {ty : TypeId} (x : Operand) (ho : o.op = .load ty x) {k b off : Nat} (hA : Agg P ty k)
    (hx : a.eval x = .pointer (some ⟨b, off, none⟩)) (cs : List Value) (hk : cs.length = k) (hc : ∀ j u, cs[j]? = some u → w.cell? ⟨b, off + j, none⟩ = some u)
    (h : wpList P ops Q rest (a.put o.dst (.agg cs.toArray)) w) : wpList P ops Q (o :: rest) a w :=
  wpList_plain hgd fun _ hK => wp_load_cs x ho hA hx cs hk hc (hK _ _ h)
theorem Box.cells {b : Nat} {vs : List Value} (h : Box w b vs) : ∀ j u, vs[j]? = some u → w.cell? ⟨b, 0 + j, none⟩ = some u := fun j u hu => by rw [Nat.zero_add]; exact h.cell j hu
theorem wpList_load_box {ops : Array Oper} {rest : List Oper} {o : Oper} {a : Act} {Q : Exit → Act → World → Prop} (hgd : o.guard = none) {ty : TypeId} (x : Operand) (ho : o.op = .load ty x) {k b : Nat} (hA : Agg P ty k)
    (hx : a.eval x = .pointer (some ⟨b, 0, none⟩)) (cs : List Value) (hk : cs.length = k) (hB : Box w b cs)
    (h : wpList P ops Q rest (a.put o.dst (.agg cs.toArray)) w) : wpList P ops Q (o :: rest) a w :=
  wpList_load_cs hgd x ho hA hx cs hk hB.cells h

/-- Cells written one behind another. -/
def putC (w : World) (b off : Nat) : List Value → World
  | [] => w
  | v :: r => putC (w.setCell ⟨b, off, none⟩ v) b (off + 1) r
theorem putC_size : ∀ (vs : List Value) (w : World) (b off : Nat), (putC w b off vs).heap.size = w.heap.size
  | [], _, _, _ => rfl
  | v :: r, w, b, off => by rw [putC, putC_size r]; simp [World.setCell]
theorem putC_heap : ∀ (vs : List Value) (w : World) (b off k : Nat), k ≠ b → (putC w b off vs).heap[k]? = w.heap[k]?
  | [], _, _, _, _, _ => rfl
  | v :: r, w, b, off, k, h => by rw [putC, putC_heap r _ b (off + 1) k h]; exact Below.heap_setCell _ _ _ _ h
theorem putC_same : ∀ (vs : List Value) (w : World) (b off : Nat), (putC w b off vs).os = w.os ∧ (putC w b off vs).tape = w.tape ∧ (putC w b off vs).output = w.output
  | [], _, _, _ => ⟨rfl, rfl, rfl⟩
  | v :: r, w, b, off => by rw [putC]; exact putC_same r _ b (off + 1)
theorem putC_below {B : Nat} {w0 : World} (h : Below B w0 w) (b off : Nat) (hb : B ≤ b) (vs : List Value) : Below B w0 (putC w b off vs) :=
  ⟨(putC_same vs w b off).1.trans h.os, (putC_same vs w b off).2.1.trans h.tape, (putC_same vs w b off).2.2.trans h.output, by rw [putC_size]; exact h.size, fun k hk => (putC_heap vs w b off k (by omega)).trans (h.block k hk)⟩
theorem putC_turned {S : Nat → Prop} {w0 : World} (h : Turned S w0 w) (b off : Nat) (hb : S b) (vs : List Value) : Turned S w0 (putC w b off vs) :=
  ⟨(putC_same vs w b off).1.trans h.os, (putC_same vs w b off).2.1.trans h.tape, (putC_same vs w b off).2.2.trans h.output, by rw [putC_size]; exact h.size, fun k hk hn => (putC_heap vs w b off k (fun e => hn (e ▸ hb))).trans (h.block k hk hn)⟩
theorem set_mid {α : Type} (a : List α) (x v : α) (b : List α) (k : Nat) (h : a.length = k) : (a ++ x :: b).set k v = a ++ v :: b := by subst h; simp
theorem Box.putC_mid : ∀ (vs : List Value) (w : World) (b : Nat) (p old q : List Value), Box w b (p ++ old ++ q) → old.length = vs.length → Box (putC w b p.length vs) b (p ++ vs ++ q)
  | [], w, b, p, old, q, h, hl => by
    obtain rfl : old = [] := List.length_eq_zero_iff.1 hl
    exact h
  | v :: r, w, b, p, old, q, h, hl => by
    match old, hl with
    | x :: old', hl =>
      have h1 : Box (w.setCell ⟨b, p.length, none⟩ v) b (p ++ [v] ++ old' ++ q) := by
        have := h.set p.length v
        rw [List.append_assoc, List.cons_append, set_mid p x v _ _ rfl] at this
        simpa using this
      have h2 := Box.putC_mid r _ b (p ++ [v]) old' q h1 (by simpa using hl)
      rw [putC]
      simpa using h2
theorem Box.putAll {b : Nat} {old : List Value} (h : Box w b old) (vs : List Value) (hl : old.length = vs.length) : Box (putC w b 0 vs) b vs := by
  have := Box.putC_mid vs w b [] old [] (by simpa using h) hl
  simpa using this
theorem run_storeCells_put : ∀ (vs : List Value) (w : World) (b off i : Nat) , (∀ v ∈ vs, v.oneCell' = true) → (∀ j, j < vs.length → (∃ u, w.cell? ⟨b, off + i + j, none⟩ = some u) ∧ w.frozen? ⟨b, off + i + j, none⟩ = false) →
    (storeCells ⟨b, off, none⟩ vs i).run P w = .ok () (putC w b (off + i) vs)
  | [], w, b, off, i, _, _ => by simp [storeCells, putC]
  | v :: r, w, b, off, i, h1, h2 => by
    obtain ⟨⟨u, hu⟩, hf⟩ := h2 0 (by simp)
    rw [Nat.add_zero] at hu hf
    have hadd : (⟨b, off, none⟩ : Addr).add i = ⟨b, off + i, none⟩ := by unfold Addr.add; split <;> simp_all
    rw [storeCells, Sem.run_bind, hadd, run_store P w _ v _ (h1 v (List.mem_cons_self ..))]
    simp only [hu, hf, Bool.false_eq_true, if_false, Result.andThen_ok]
    rw [putC]
    refine run_storeCells_put r (w.setCell ⟨b, off + i, none⟩ v) b off (i + 1) (fun x hx => h1 x (List.mem_cons_of_mem _ hx)) (fun j hj => ?_)
    obtain ⟨⟨u', hu'⟩, hf'⟩ := h2 (j + 1) (by simp; omega)
    have e : off + i + (j + 1) = off + (i + 1) + j := by omega
    rw [e] at hu' hf'
    refine ⟨?_, ?_⟩
    · unfold World.cell? at hu' ⊢
      simp only [World.setCell, Array.getElem?_modify, if_true, Option.isSome_none, Bool.false_eq_true, if_false] at hu' ⊢
      cases hh : w.heap[b]? with
      | none => rw [hh] at hu'; cases hu'
      | some o =>
        rw [hh] at hu'
        cases o with
        | cells cs t fr =>
          simp only [Option.map_some] at hu' ⊢
          have hlt : off + (i + 1) + j < cs.size := (Array.getElem?_eq_some_iff.1 hu').1
          exact ⟨_, Array.getElem?_eq_getElem (by simpa using hlt)⟩
        | _ => cases hu'
    · unfold World.frozen? at hf' ⊢
      simp only [World.setCell, Array.getElem?_modify, if_true]
      cases hh : w.heap[b]? with
      | none => rfl
      | some o =>
        simp only [hh] at hf'
        cases o <;> simp_all
theorem Box.may {b : Nat} {old : List Value} (h : Box w b old) (off k : Nat) (hl : off + k ≤ old.length) : ∀ j, j < k → (∃ u, w.cell? ⟨b, off + 0 + j, none⟩ = some u) ∧ w.frozen? ⟨b, off + 0 + j, none⟩ = false :=
  fun j hj => ⟨⟨_, h.cell (off + 0 + j) (List.getElem?_eq_getElem (by omega))⟩, h.open_ _⟩
theorem wp_store_cs {o : Oper} {a : Act} {K : Act → World → Prop} {Q : Exit → Act → World → Prop} {ty : TypeId} (x y : Operand) (ho : o.op = .store ty x y) (hd : o.dst = none) {k b off : Nat} (hA : Agg P ty k)
    (hx : a.eval x = .pointer (some ⟨b, off, none⟩)) (vs : List Value) (hy : a.eval y = .agg vs.toArray) (hk : vs.length = k) (h1 : ∀ v ∈ vs, v.oneCell' = true)
    (hm : ∀ j, j < vs.length → (∃ u, w.cell? ⟨b, off + 0 + j, none⟩ = some u) ∧ w.frozen? ⟨b, off + 0 + j, none⟩ = false)
    (h : K a (putC w b off vs)) : o.wp P a w K Q := by
  subst hk
  have hs := run_storeCells_put (P := P) vs w b off 0 h1 hm
  unfold Oper.wp execOp
  have hz : (Value.agg vs.toArray).cells.size = vs.length := by simp [Value.cells]
  simp only [ho, hx, hy, Instr.storeAt, storeVar, Instr.sureAddr, Sem.run_bind, Sem.run_pure, Result.andThen_ok, hA.size, hz, ne_eq, not_true, if_false]
  rw [show (Value.agg vs.toArray).cells.toList = vs by simp [Value.cells], hs]
  show K (a.put o.dst undef) (putC w b (off + 0) vs)
  rw [hd]
  exact h
theorem wpList_store_cs {ops : Array Oper} {rest : List Oper} {o : Oper} {a : Act} {Q : Exit → Act → World → Prop} (hgd : o.guard = none) {ty : TypeId} (x y : Operand) (ho : o.op = .store ty x y) (hd : o.dst = none) {k b off : Nat} (hA : Agg P ty k)
    (hx : a.eval x = .pointer (some ⟨b, off, none⟩)) (vs : List Value) (hy : a.eval y = .agg vs.toArray) (hk : vs.length = k) (h1 : ∀ v ∈ vs, v.oneCell' = true)
    (hm : ∀ j, j < vs.length → (∃ u, w.cell? ⟨b, off + 0 + j, none⟩ = some u) ∧ w.frozen? ⟨b, off + 0 + j, none⟩ = false)
    (h : wpList P ops Q rest a (putC w b off vs)) : wpList P ops Q (o :: rest) a w :=
  wpList_plain hgd fun _ hK => wp_store_cs x y ho hd hA hx vs hy hk h1 hm (hK _ _ h)
theorem wpList_store_box {ops : Array Oper} {rest : List Oper} {o : Oper} {a : Act} {Q : Exit → Act → World → Prop} (hgd : o.guard = none) {ty : TypeId} (x y : Operand) (ho : o.op = .store ty x y) (hd : o.dst = none) {k b : Nat} (hA : Agg P ty k)
    (hx : a.eval x = .pointer (some ⟨b, 0, none⟩)) (vs : List Value) (hy : a.eval y = .agg vs.toArray) (hk : vs.length = k) (h1 : ∀ v ∈ vs, v.oneCell' = true) (old : List Value) (hB : Box w b old) (hl : old.length = k)
    (h : wpList P ops Q rest a (putC w b 0 vs)) : wpList P ops Q (o :: rest) a w :=
  wpList_store_cs hgd x y ho hd hA hx vs hy hk h1 (hB.may 0 vs.length (by omega)) h
theorem results_box {fn : Func} {p : Tmp} {ty : TypeId} {k : Nat} (h : fn.results = #[.cell p ty]) (tmps : Array Value) (g : Nat) (cs : List Value) (hA : Agg P ty k) (hk : cs.length = k)
    (hp : tmps.getD p undef = .pointer (some ⟨g, 0, none⟩)) (hB : Box w g cs) : (results fn tmps).run P w = .ok (.agg cs.toArray) w := by
  have hp' : tmps[p]?.getD undef = .pointer (some ⟨g, 0, none⟩) := by simpa using hp
  have := run_loadVar_cs (P := P) (w := w) (b := g) (off := 0) hA cs hk hB.cells
  simp [results, h, hp', asAddr, this]
theorem wpList_build0 {ops : Array Oper} {rest : List Oper} {o : Oper} {a : Act} {Q : Exit → Act → World → Prop} (hgd : o.guard = none) {ty : TypeId} (ho : o.op = .build ty #[]) (cells : Array Value) (hb : P.built ty [] = some cells)
    (h : wpList P ops Q rest (a.put o.dst (.agg cells)) w) : wpList P ops Q (o :: rest) a w :=
  wpList_plain hgd fun _ hK => by
    have hr := run_build (P := P) w ty #[] cells hb
    unfold Oper.wp execOp
    simp only [ho, Sem.run_bind, List.map_toArray, List.map_nil]
    rw [hr]
    exact hK _ _ h
end
end Go.Proofs.Palim
