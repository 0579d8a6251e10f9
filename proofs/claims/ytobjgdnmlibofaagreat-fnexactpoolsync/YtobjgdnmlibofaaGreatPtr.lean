/-
  Pointers as values: the laws' helpers on them, and which of them are valid.
-/
import Derived.Test.YtobjgdnmlibofaaGreatRows
import Derived.Test.YtobjgdnmlibofaaGreatMem
import Derived.Test.YtobjgdnmlibofaaGreatBox
import Derived.WalkKit
import Derived.ProofKit
import Derived.Lib.Hide
import Derived.Laws.StructEq
set_option maxRecDepth 100000
namespace Go.Proofs.YtobjgdnmlibofaaGreat
open Go.ChangeShapes Go.WideShapes Go.ChangeAt Go.RowKit Go.Proofs.Palim

structure PtrM where
  at_ : Int
  sum : Int
  birth : Int
/-- A pointer's value. -/
abbrev pv (p : PtrM) : Value := .agg #[.int .i64 p.at_, .int .i64 p.sum, .int .i64 p.birth]
/-- Its numbers are ints. -/
structure PtrFits (p : PtrM) : Prop where
  a : -9223372036854775808 ≤ p.at_ ∧ p.at_ ≤ 9223372036854775807
  s : -9223372036854775808 ≤ p.sum ∧ p.sum ≤ 9223372036854775807
  b : -9223372036854775808 ≤ p.birth ∧ p.birth ≤ 9223372036854775807
def NullM (p : PtrM) : Prop := p.at_ = 0 ∧ p.sum = 0 ∧ p.birth = 0
instance (p : PtrM) : Decidable (NullM p) := by unfold NullM; infer_instance
def GoodM (p : PtrM) : Prop := 1 ≤ p.at_ ∧ p.at_ < 120 ∧ 0 ≤ p.sum ∧ p.sum < 65521 ∧ 0 ≤ p.birth ∧ p.birth ≤ 1000000
instance (p : PtrM) : Decidable (GoodM p) := by unfold GoodM; infer_instance
def PtrOkM (p : PtrM) : Prop := NullM p ∨ GoodM p
instance (p : PtrM) : Decidable (PtrOkM p) := by unfold PtrOkM; infer_instance

theorem ret_b {a b : Bool} (h : a = b) : Ending.returned (.bool a) = Ending.returned (.bool b) := by rw [h]
theorem dec_b {a b : Bool} (h : a = true ↔ b = true) : a = b := by cases a <;> cases b <;> simp_all

set_option maxHeartbeats 400000 in
theorem toPtr_any (p : PtrM) (w : World) :
    Calls Tryz.prog 109 #[pv p] w fun e w' => e = .returned (pv p) ∧ Below w.heap.size w w' := by
  obtain ⟨a, s, b⟩ := p
  go_enter Tryz.func109, Tryz.ntmps109
  go_wp2
  refine bodyPost_ret (v := pv ⟨a, s, b⟩) (by simp [results, Tryz.results109, go_sem, pv]) rfl ⟨rfl, ?_⟩
  exact (((Below.refl _ w).alloc (Nat.le_refl _) _).alloc (by simp) _).alloc (by simp; omega) _

set_option maxHeartbeats 400000 in
theorem eqPtr_any (p q : PtrM) (w : World) :
    Calls Tryz.prog 120 #[pv p, pv q] w fun e w' => e = .returned (.bool (decide (p.at_ = q.at_ ∧ p.sum = q.sum ∧ p.birth = q.birth))) ∧ Below w.heap.size w w' := by
  obtain ⟨a, s, b⟩ := p
  obtain ⟨c, t, d⟩ := q
  have fin : ∀ r : Bool, (r = true ↔ (a = c ∧ s = t ∧ b = d)) → Ending.returned (.bool r) = Ending.returned (.bool (decide (a = c ∧ s = t ∧ b = d))) := fun r h => ret_b (dec_b (by rw [h, decide_eq_true_eq]))
  by_cases h1 : a = c
  · by_cases h2 : s = t
    · by_cases h3 : b = d
      all_goals
        go_enter Tryz.func120, Tryz.ntmps120
        go_wp2
        go_ret
        exact ⟨fin _ (by simp [h1, h2, h3]), ((Below.refl _ _).alloc (Nat.le_refl _) _).alloc (by simp) _⟩
    · go_enter Tryz.func120, Tryz.ntmps120
      go_wp2
      go_ret
      exact ⟨fin _ (by simp [h2]), ((Below.refl _ _).alloc (Nat.le_refl _) _).alloc (by simp) _⟩
  · go_enter Tryz.func120, Tryz.ntmps120
    go_wp2
    go_ret
    exact ⟨fin _ (by simp [h1]), ((Below.refl _ _).alloc (Nat.le_refl _) _).alloc (by simp) _⟩
theorem eqPtr_same (p : PtrM) (w : World) :
    Calls Tryz.prog 120 #[pv p, pv p] w fun e w' => e = .returned (.bool true) ∧ Below w.heap.size w w' := by
  refine (eqPtr_any p p w).mono ?_
  rintro e w' ⟨rfl, hb⟩
  exact ⟨by simp, hb⟩

set_option maxHeartbeats 400000 in
theorem implPtrOk_any (p : PtrM) (w : World) :
    Calls Tryz.prog 139 #[pv p] w fun e w' => e = .returned (.bool (decide (PtrOkM p))) ∧ Below w.heap.size w w' := by
  obtain ⟨a, s, b⟩ := p
  by_cases h1 : a = 0
  all_goals by_cases h2 : s = 0
  all_goals by_cases h3 : b = 0
  all_goals go_enter Tryz.func139, Tryz.ntmps139
  all_goals go_wp2
  all_goals
    go_ret
    exact ⟨ret_b (dec_b (by first | (simp only [decide_eq_true_eq, Bool.false_eq_true, false_iff, true_iff] at *; unfold PtrOkM NullM GoodM; simp only; omega) | (simp [PtrOkM, NullM, GoodM]; done) | (simp [PtrOkM, NullM, GoodM]; omega))), (Below.refl _ _).alloc (Nat.le_refl _) _⟩

set_option maxHeartbeats 400000 in
theorem specPtrOk_any (p : PtrM) (w : World) :
    Calls Tryz.prog 55 #[pv p] w fun e w' => e = .returned (.bool (decide (PtrOkM p))) ∧ Below w.heap.size w w' := by
  obtain ⟨a, s, b⟩ := p
  by_cases h1 : a = 0
  all_goals by_cases h2 : s = 0
  all_goals by_cases h3 : b = 0
  all_goals go_enter Tryz.func55, Tryz.ntmps55
  all_goals go_wp2
  all_goals
    go_ret
    exact ⟨ret_b (dec_b (by first | (simp only [decide_eq_true_eq, Bool.false_eq_true, false_iff, true_iff, beq_eq_false_iff_ne, ne_eq] at *; unfold PtrOkM NullM GoodM; simp only; omega) | (simp [PtrOkM, NullM, GoodM]; done) | (simp [PtrOkM, NullM, GoodM]; omega))), (Below.refl _ _).alloc (Nat.le_refl _) _⟩
theorem implPtrOk_is (p : PtrM) (w : World) (r : Bool) (hr : decide (PtrOkM p) = r) :
    Calls Tryz.prog 139 #[pv p] w fun e w' => e = .returned (.bool r) ∧ Below w.heap.size w w' := hr ▸ implPtrOk_any p w
theorem specPtrOk_is (p : PtrM) (w : World) (r : Bool) (hr : decide (PtrOkM p) = r) :
    Calls Tryz.prog 55 #[pv p] w fun e w' => e = .returned (.bool r) ∧ Below w.heap.size w w' := hr ▸ specPtrOk_any p w
end Go.Proofs.YtobjgdnmlibofaaGreat
