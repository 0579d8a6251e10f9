/-
  Sets compared by Go's own == and !=.
-/
import Derived.Test.YtojjenclcidnkaaGreatDoorData
import Derived.Laws.StructEq
set_option maxRecDepth 100000
namespace Go.Proofs.YtojjenclcidnkaaGreatDoor
open Go.ChangeShapes Go.WideShapes Go.ChangeAt Go.RowKit Go.Proofs.Palim

theorem bytes_beq (a b : ByteArray) : (a == b) = decide (a = b) := by
  rw [beq_toListBytes, ByteArray.toList_eq, ByteArray.toList_eq]
  by_cases h : a = b
  · subst h; simp
  · rw [decide_eq_false h]
    refine beq_eq_false_iff_ne.2 fun e => h ?_
    obtain ⟨⟨x⟩⟩ := a
    obtain ⟨⟨y⟩⟩ := b
    exact congrArg (fun l => (⟨⟨l⟩⟩ : ByteArray)) e
theorem guardSet (op : BinOp) (a b : Operand) (xs ys : Array Value) (w : World) : (eqGuard op 97 a b (.agg xs) (.agg ys)).run Tryz.prog w = .ok () w := run_eqGuard_agg w op 97 a b xs ys (by kernel_rfl)

theorem equalA8 (d : Nat) (x y : SetM) (w : World) : (Op.equalIn (d + 1 + 1) 95 (.agg #[.string x.b0, .string x.b1, .string x.b2, .string x.b3, .string x.b4, .string x.b5, .string x.b6, .string x.b7]) (.agg #[.string y.b0, .string y.b1, .string y.b2, .string y.b3, .string y.b4, .string y.b5, .string y.b6, .string y.b7])).run Tryz.prog w
    = .ok (decide (x.bs = y.bs)) w := by
  have u9 := Tryz.underlying9
  have a9 := Tryz.isAgg9
  have z9 := Tryz.sizeOf9
  have hr : ∀ (a b : ByteArray) (w : World), (Op.equalIn (d + 1) 9 (.string a) (.string b)).run Tryz.prog w = .ok (decide (a = b)) w := fun a b w => by rw [run_equalIn_string w d _ a b u9, ← beq_toListBytes, bytes_beq]
  have p0 : ∀ (c0 c1 c2 c3 c4 c5 c6 c7 : Value) (w : World), (part 9 #[c0, c1, c2, c3, c4, c5, c6, c7] 0).run Tryz.prog w = .ok c0 w := fun c0 c1 c2 c3 c4 c5 c6 c7 w => by simp [part, a9, Result.andThen]
  have p1 : ∀ (c0 c1 c2 c3 c4 c5 c6 c7 : Value) (w : World), (part 9 #[c0, c1, c2, c3, c4, c5, c6, c7] 1).run Tryz.prog w = .ok c1 w := fun c0 c1 c2 c3 c4 c5 c6 c7 w => by simp [part, a9, Result.andThen]
  have p2 : ∀ (c0 c1 c2 c3 c4 c5 c6 c7 : Value) (w : World), (part 9 #[c0, c1, c2, c3, c4, c5, c6, c7] 2).run Tryz.prog w = .ok c2 w := fun c0 c1 c2 c3 c4 c5 c6 c7 w => by simp [part, a9, Result.andThen]
  have p3 : ∀ (c0 c1 c2 c3 c4 c5 c6 c7 : Value) (w : World), (part 9 #[c0, c1, c2, c3, c4, c5, c6, c7] 3).run Tryz.prog w = .ok c3 w := fun c0 c1 c2 c3 c4 c5 c6 c7 w => by simp [part, a9, Result.andThen]
  have p4 : ∀ (c0 c1 c2 c3 c4 c5 c6 c7 : Value) (w : World), (part 9 #[c0, c1, c2, c3, c4, c5, c6, c7] 4).run Tryz.prog w = .ok c4 w := fun c0 c1 c2 c3 c4 c5 c6 c7 w => by simp [part, a9, Result.andThen]
  have p5 : ∀ (c0 c1 c2 c3 c4 c5 c6 c7 : Value) (w : World), (part 9 #[c0, c1, c2, c3, c4, c5, c6, c7] 5).run Tryz.prog w = .ok c5 w := fun c0 c1 c2 c3 c4 c5 c6 c7 w => by simp [part, a9, Result.andThen]
  have p6 : ∀ (c0 c1 c2 c3 c4 c5 c6 c7 : Value) (w : World), (part 9 #[c0, c1, c2, c3, c4, c5, c6, c7] 6).run Tryz.prog w = .ok c6 w := fun c0 c1 c2 c3 c4 c5 c6 c7 w => by simp [part, a9, Result.andThen]
  have p7 : ∀ (c0 c1 c2 c3 c4 c5 c6 c7 : Value) (w : World), (part 9 #[c0, c1, c2, c3, c4, c5, c6, c7] 7).run Tryz.prog w = .ok c7 w := fun c0 c1 c2 c3 c4 c5 c6 c7 w => by simp [part, a9, Result.andThen]
  rw [Op.equalIn]
  simp only [Sem.run_bind, run_underlying Tryz.underlying95, Result.andThen_ok, z9]
  obtain ⟨n, k, f, a0, a1, a2, a3, a4, a5, a6, a7⟩ := x
  obtain ⟨n', k', f', c0, c1, c2, c3, c4, c5, c6, c7⟩ := y
  simp only [SetM.bs]
  simp [List.range', p0, p1, p2, p3, p4, p5, p6, p7, hr, Result.andThen]
  by_cases h0 : a0 = c0
  · by_cases h1 : a1 = c1
    · by_cases h2 : a2 = c2
      · by_cases h3 : a3 = c3
        · by_cases h4 : a4 = c4
          · by_cases h5 : a5 = c5
            · by_cases h6 : a6 = c6
              · by_cases h7 : a7 = c7
                · simp [*]
                · simp [*]
              · simp [*]
            · simp [*]
          · simp [*]
        · simp [*]
      · simp [*]
    · simp [*]
  · simp [*]

theorem set_eq {a b : SetM} : a = b ↔ a.name = b.name ∧ a.kind = b.kind ∧ a.frm = b.frm ∧ a.bs = b.bs := by
  cases a; cases b
  simp [SetM.bs]
instance : DecidableEq SetM := fun a b => decidable_of_iff _ set_eq.symm
theorem neqSet (x y : SetM) (r : Bool) (h : decide (x = y) = r) (w : World) :
    (binOp .neq 97 (.agg #[.string x.name, .int .i64 x.kind, .string x.frm, .string x.b0, .string x.b1, .string x.b2, .string x.b3, .string x.b4, .string x.b5, .string x.b6, .string x.b7]) (.agg #[.string y.name, .int .i64 y.kind, .string y.frm, .string y.b0, .string y.b1, .string y.b2, .string y.b3, .string y.b4, .string y.b5, .string y.b6, .string y.b7])).run Tryz.prog w = .ok (.bool (!r)) w := by
  have u3 := Tryz.underlying3
  have u9 := Tryz.underlying9
  have a3 := Tryz.isAgg3
  have z3 := Tryz.sizeOf3
  have a9 := Tryz.isAgg9
  have z9 := Tryz.sizeOf9
  have aA := Tryz.isAgg95
  have zA := Tryz.sizeOf95
  have hS : Tryz.prog.underlying 97 = some (.struct (Tryz.prog.fieldsOf 97)) := by kernel_rfl
  have hp : Tryz.prog.stoodInHeld 97 = false := by kernel_rfl
  have h8 := equalA8 9997 x y
  subst h
  rw [run_neq_struct, show (10000 : Nat) = 9999 + 1 from rfl, run_equalIn_agg w 9999 97 _ _ hS hp]
  simp only [Program.fieldsOf, Tryz.underlying97]
  go_simp
  have e3 : ∀ a b : ByteArray, a.toList = b.toList ↔ a = b := fun a b => by
    have h1 := beq_toListBytes a b
    rw [bytes_beq] at h1
    by_cases h : a = b
    · subst h; simp
    · rw [decide_eq_false h] at h1
      exact ⟨fun e => absurd e (beq_eq_false_iff_ne.1 h1.symm), fun e => absurd e h⟩
  by_cases h1 : x.name = y.name <;> by_cases h2 : x.kind = y.kind <;> by_cases h3 : x.frm = y.frm <;> by_cases h4 : x.bs = y.bs <;> simp [h1, h2, h3, h4, e3, set_eq]
end Go.Proofs.YtojjenclcidnkaaGreatDoor
