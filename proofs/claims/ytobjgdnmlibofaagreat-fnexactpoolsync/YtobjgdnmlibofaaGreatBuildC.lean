/-
  A struct put together out of aggregates.
-/
import Derived.Test.YtobjgdnmlibofaaGreatStore
set_option maxRecDepth 100000
namespace Go.Proofs.Palim
open Go Go.RowKit
section
variable {P : Program} {w : World}
theorem exec_build_cs {evl : Operand → Value} {o : Oper} {ty : TypeId} {fs : Array (Nat × Operand)} (ho : o.op = .build ty fs) (cells : Array Value) (hb : P.built ty (fs.toList.map fun f => (f.1, evl f.2)) = some cells) :
    (execOp evl o).run P w = .ok (.value (.agg cells)) w := by
  have hr := run_build (P := P) w ty (fs.map fun f => (f.1, evl f.2)) cells (by rw [Array.toList_map]; exact hb)
  unfold execOp
  simp only [ho, Sem.run_bind]
  rw [hr]
  rfl
theorem wpList_build_cs {ops : Array Oper} {rest : List Oper} {o : Oper} {a : Act} {Q : Exit → Act → World → Prop} (hgd : o.guard = none) {ty : TypeId} {fs : Array (Nat × Operand)} (ho : o.op = .build ty fs) (cells : Array Value) (hb : P.built ty (fs.toList.map fun f => (f.1, a.eval f.2)) = some cells)
    (h : wpList P ops Q rest (a.put o.dst (.agg cells)) w) : wpList P ops Q (o :: rest) a w :=
  wpList_plain hgd fun _ hK => by
    have hr := exec_build_cs (P := P) (w := w) (evl := a.eval) ho cells hb
    unfold Oper.wp
    rw [hr]
    exact hK _ _ h
end
end Go.Proofs.Palim
namespace Go.Proofs.YtobjgdnmlibofaaGreat
open Go.ChangeShapes Go.WideShapes Go.ChangeAt Go.RowKit Go.Proofs.Palim
theorem built_pool (d0 d1 dl k0 k1 k2 k3 k4 k5 k6 : Value) (u : Bool) : Tryz.prog.built 46 [(0, .agg #[d0, d1, dl]), (1, .agg #[k0, k1, k2, k3, k4, k5, k6]), (2, .bool u)] = some #[d0, d1, dl, k0, k1, k2, k3, k4, k5, k6, .bool u] := by kernel_rfl
theorem built_poolD (d0 d1 dl : Value) : Tryz.prog.built 46 [(0, .agg #[d0, d1, dl])] = some #[d0, d1, dl, .int .i64 0, .slice none 0 0, .slice none 0 0, .slice none 0 0, .bool false, .slice none 0 0, .int .i64 0, .bool false] := by kernel_rfl
theorem built_pool0 : Tryz.prog.built 46 [] = some #[.slice none 0 0, .slice none 0 0, .slice none 0 0, .int .i64 0, .slice none 0 0, .slice none 0 0, .slice none 0 0, .bool false, .slice none 0 0, .int .i64 0, .bool false] := by kernel_rfl
end Go.Proofs.YtobjgdnmlibofaaGreat
