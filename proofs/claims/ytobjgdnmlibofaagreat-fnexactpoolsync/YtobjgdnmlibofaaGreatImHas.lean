/-
  impl's has and diskTakes: whether a sector is there, and whether a text fits into it.
-/
import Derived.Test.YtobjgdnmlibofaaGreatData
set_option maxRecDepth 100000
namespace Go.Proofs.YtobjgdnmlibofaaGreat
open Go.ChangeShapes Go.WideShapes Go.ChangeAt Go.RowKit Go.Proofs.Palim

/-- There is such a sector. -/
def Has (n0 n1 : Nat) (side at_ : Int) : Prop := (side = 0 ∧ 0 ≤ at_ ∧ at_ < n0) ∨ (side = 1 ∧ 0 ≤ at_ ∧ at_ < n1)
instance (n0 n1 : Nat) (side at_ : Int) : Decidable (Has n0 n1 side at_) := by unfold Has; infer_instance
theorem has_there (n : Nat) (side at_ : Int) (size : Nat) : (Has n n side at_ ∧ size ≤ 420) ↔ There n side at_ size := by unfold Has There; omega

set_option maxHeartbeats 400000 in
theorem has_any (A0 A1 : Option Addr) (n0 c0 n1 c1 : Nat) (side at_ : Int) (w : World) :
    Calls Tryz.prog 92 #[.agg #[.slice A0 n0 c0, .slice A1 n1 c1], .int .i64 side, .int .i64 at_] w fun e w' => e = .returned (.bool (decide (Has n0 n1 side at_))) ∧ Below w.heap.size w w' := by
  have hs : side < 0 ∨ side = 0 ∨ side = 1 ∨ 1 < side := by omega
  rcases hs with hs | rfl | rfl | hs
  all_goals
    go_enter Tryz.func92, Tryz.ntmps92
    go_wp2
    all_goals
      go_ret
      exact ⟨ret_bool (dec_eq (by simp only [decide_eq_true_eq, Bool.false_eq_true, false_iff]; unfold Has; omega)), (Below.refl _ _).alloc (Nat.le_refl _) _⟩
theorem has_is (A0 A1 : Option Addr) (n0 c0 n1 c1 : Nat) (side at_ : Int) (w : World) (r : Bool) (hr : decide (Has n0 n1 side at_) = r) :
    Calls Tryz.prog 92 #[.agg #[.slice A0 n0 c0, .slice A1 n1 c1], .int .i64 side, .int .i64 at_] w fun e w' => e = .returned (.bool r) ∧ Below w.heap.size w w' := hr ▸ has_any A0 A1 n0 c0 n1 c1 side at_ w

set_option maxHeartbeats 400000 in
theorem takes_any (A0 A1 : Option Addr) (vl : Value) (n0 c0 n1 c1 : Nat) (side at_ : Int) (s : ByteArray) (w : World) (hz : s.size ≤ maxLen) :
    Calls Tryz.prog 110 #[.agg #[.slice A0 n0 c0, .slice A1 n1 c1, vl], .int .i64 side, .int .i64 at_, .string s] w fun e w' => e = .returned (.bool (decide (Has n0 n1 side at_ ∧ s.size ≤ 420))) ∧ Below w.heap.size w w' := by
  unfold maxLen at hz
  have hn := Below.new (w := w) (.cells #[.slice A0 n0 c0, .slice A1 n1 c1, vl] 39)
  by_cases hh : Has n0 n1 side at_
  · have hr := decide_eq_true hh
    go_enter Tryz.func110, Tryz.ntmps110
    go_wp2_with fail
    refine (has_is A0 A1 n0 c0 n1 c1 side at_ _ true hr).mono ?_
    rintro e w1 ⟨rfl, hb⟩
    have HB := Lib.hid (hn.trans (hb.mono hn.size))
    have HH := Lib.hid hh
    clear hb hn hr hh
    go_wp2
    all_goals
      go_ret
      exact ⟨ret_bool (dec_eq (by have := HH.out; simp only [decide_eq_true_eq, this, true_and]; omega)), HB.out⟩
  · have hr := decide_eq_false hh
    go_enter Tryz.func110, Tryz.ntmps110
    go_wp2_with fail
    refine (has_is A0 A1 n0 c0 n1 c1 side at_ _ false hr).mono ?_
    rintro e w1 ⟨rfl, hb⟩
    have HB := Lib.hid (hn.trans (hb.mono hn.size))
    have HH := Lib.hid hh
    clear hb hn hr hh
    go_wp2
    all_goals
      go_ret
      exact ⟨ret_bool (dec_eq (by have := HH.out; simp [this])), HB.out⟩
theorem takes_is (A0 A1 : Option Addr) (vl : Value) (n c0 c1 : Nat) (side at_ : Int) (s : ByteArray) (w : World) (hz : s.size ≤ maxLen) (r : Bool) (hr : decide (There n side at_ s.size) = r) :
    Calls Tryz.prog 110 #[.agg #[.slice A0 n c0, .slice A1 n c1, vl], .int .i64 side, .int .i64 at_, .string s] w fun e w' => e = .returned (.bool r) ∧ Below w.heap.size w w' := by
  have h := takes_any A0 A1 vl n c0 n c1 side at_ s w hz
  rw [show decide (Has n n side at_ ∧ s.size ≤ 420) = r from (dec_eq (by simp only [decide_eq_true_eq]; exact has_there n side at_ s.size)).trans hr] at h
  exact h
end Go.Proofs.YtobjgdnmlibofaaGreat
