/-
  Lists of late writes marked, and asked for the marks.
-/
import Derived.Test.YthhgjjdnkhmggaaLateS
import Derived.WalkKit
import Derived.ProofKit
import Derived.Lib.Hide
import Derived.WalkSpells
import Derived.WalkSmall
namespace Go.Proofs.Ythhgjjdnkhmggaa
open Go.ChangeShapes Go.WideShapes Go.ChangeAt Go.RowKit Go.Proofs.Palim

/-- The marks of late writes from k on. -/
def lmarks (k n : Nat) : List LateM := (List.range n).map fun i => ⟨((k + 3 * i : Nat) : Int), ((k + 3 * i + 1 : Nat) : Int), mkText (k + 3 * i + 2)⟩
theorem lmarks_length (k n : Nat) : (lmarks k n).length = n := by simp [lmarks]
theorem lmarks_succ (k n : Nat) : lmarks k (n + 1) = lmarks k n ++ [⟨((k + 3 * n : Nat) : Int), ((k + 3 * n + 1 : Nat) : Int), mkText (k + 3 * n + 2)⟩] := by simp [lmarks, List.range_succ]
theorem lmarks_at (k n i : Nat) (h' : i < (lmarks k n).length) : (lmarks k n)[i] = ⟨((k + 3 * i : Nat) : Int), ((k + 3 * i + 1 : Nat) : Int), mkText (k + 3 * i + 2)⟩ := by simp [lmarks]

end Go.Proofs.Ythhgjjdnkhmggaa
