/-
  slices.Backward at late writes: the iterator hands out each write with its place, from the last to the first, to whatever loop body keeps the writes' memory.
-/
import Derived.Test.YtobjgdnmlibofaaGreatDiskB
import Derived.Test.YtobjgdnmlibofaaGreatImKeep
import Derived.RangeFuncNested
import Derived.RangeFuncLeaves
import Derived.Shelf.Abstract
import Derived.WalkKit
import Derived.OwnWalkIn
import Derived.TacticsInMore
import Derived.LoopNIn
import Derived.LoopIn
set_option maxRecDepth 100000
namespace Go.Proofs.YtobjgdnmlibofaaGreat
open Go.ChangeShapes Go.WideShapes Go.ChangeAt Go.RowKit Go.Proofs.Palim Go.Shelf

attribute [local go_sem] Oper.semAt_some

/-- A late write as a value, and with its place as an iterator hands it out. -/
def lval (x : LateM) : Value := .agg #[.int .i64 x.side, .int .i64 x.at_, .string x.text]
def encBack (x : Int × LateM) : Array Value := #[.int .i64 x.1, .agg #[.int .i64 x.2.side, .int .i64 x.2.at_, .string x.2.text]]
/-- The writes with their places, from the last to the first. -/
def backs : Nat → List LateM → List (Int × LateM)
  | _, [] => []
  | k, x :: xs => backs (k + 1) xs ++ [((k : Int), x)]
theorem backs_append (a b : List LateM) : ∀ k, backs k (a ++ b) = backs (k + a.length) b ++ backs k a := by
  induction a with
  | nil => intro k; simp [backs]
  | cons x a ih => intro k; simp only [List.cons_append, backs, ih, List.append_assoc, List.length_cons]; rw [show k + 1 + a.length = k + (a.length + 1) by omega]
theorem backs_len (l : List LateM) : ∀ k, (backs k l).length = l.length := by
  induction l with
  | nil => intro k; rfl
  | cons x l ih => intro k; simp [backs, ih]
theorem backs_snd (l : List LateM) : ∀ k, (backs k l).map Prod.snd = l.reverse := by
  induction l with
  | nil => intro k; rfl
  | cons x l ih => intro k; simp [backs, ih]
theorem backs_pre (ls : List LateM) (m : Nat) : backs m (ls.drop m) <+: backs 0 ls := by
  rcases Nat.lt_or_ge ls.length m with h | h
  · rw [List.drop_of_length_le (by omega)]; exact List.nil_prefix
  · have h2 := backs_append (ls.take m) (ls.drop m) 0
    rw [List.take_append_drop, List.length_take, Nat.min_eq_left h, Nat.zero_add] at h2
    rw [h2]; exact List.prefix_append _ _
theorem backs_step (ls : List LateM) (m : Nat) (h : m < ls.length) : backs m (ls.drop m) = backs (m + 1) (ls.drop (m + 1)) ++ [((m : Int), ls[m])] := by
  rw [List.drop_eq_getElem_cons h]; rfl

end Go.Proofs.YtobjgdnmlibofaaGreat
