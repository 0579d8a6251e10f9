/-
  Go's == on records.
-/
import Derived.Test.YtgjlhokakcdpbaaGreatDoorLogM
set_option maxRecDepth 100000
namespace Go.Proofs.YtgjlhokakcdpbaaGreatDoor
open Go.ChangeShapes Go.WideShapes Go.ChangeAt Go.RowKit Go.Proofs.Palim

theorem equalOpM (d : Nat) (k i : Int) (a b t : ByteArray) (w : World) : (Op.equalIn (d + 1 + 1) 24 (.agg #[.int .i64 k, .string a, .string b, .int .i64 i, .string t]) (.agg #[.int .i64 k, .string a, .string b, .int .i64 i, .string t])).run Tryz.prog w = .ok true w := by
  have hS : Tryz.prog.underlying 24 = some (.struct (Tryz.prog.fieldsOf 24)) := by kernel_rfl
  have hp : Tryz.prog.stoodInHeld 24 = false := by kernel_rfl
  have u3 := Tryz.underlying3
  have a3 := Tryz.isAgg3
  have z3 := Tryz.sizeOf3
  have u9 := Tryz.underlying9
  have a9 := Tryz.isAgg9
  have z9 := Tryz.sizeOf9
  rw [run_equalIn_agg w (d + 1) 24 _ _ hS hp]
  simp only [Program.fieldsOf, Tryz.underlying24]
  simp [go_sem]
theorem equalRecM (d : Nat) (r : RecM) (w : World) : (Op.equalIn (d + 1 + 1 + 1) 26 (rv r) (rv r)).run Tryz.prog w = .ok true w := by
  obtain ⟨t, q, k, a, b, i, x⟩ := r
  have hS : Tryz.prog.underlying 26 = some (.struct (Tryz.prog.fieldsOf 26)) := by kernel_rfl
  have hp : Tryz.prog.stoodInHeld 26 = false := by kernel_rfl
  have u3 := Tryz.underlying3
  have a3 := Tryz.isAgg3
  have z3 := Tryz.sizeOf3
  have hr := equalOpM d k i a b x
  have x0 : ∀ (w : World), (part 24 #[.int .i64 t, .int .i64 q, .int .i64 k, .string a, .string b, .int .i64 i, .string x] 2).run Tryz.prog w = .ok (.agg #[.int .i64 k, .string a, .string b, .int .i64 i, .string x]) w := fun w => by kernel_rfl
  rw [run_equalIn_agg w (d + 1 + 1) 26 _ _ hS hp]
  simp only [Program.fieldsOf, Tryz.underlying26]
  simp [go_sem, x0, hr]
theorem eqlRec (r : RecM) (w : World) : (binOp .eql 26 (rv r) (rv r)).run Tryz.prog w = .ok (.bool true) w := by
  rw [run_eql_struct, show (10000 : Nat) = 9997 + 1 + 1 + 1 from rfl, equalRecM]; rfl
theorem neqRec (r : RecM) (w : World) : (binOp .neq 26 (rv r) (rv r)).run Tryz.prog w = .ok (.bool false) w := by
  rw [run_neq_struct, show (10000 : Nat) = 9997 + 1 + 1 + 1 from rfl, equalRecM]; rfl
end Go.Proofs.YtgjlhokakcdpbaaGreatDoor
