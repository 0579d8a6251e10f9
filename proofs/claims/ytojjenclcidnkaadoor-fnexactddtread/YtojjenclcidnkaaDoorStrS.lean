/-
  The laws' own helpers on lists of strings: copied, compared, measured, marked and asked for the marks.
-/
import Derived.Test.YtojjenclcidnkaaDoorRows
import Derived.Test.YtojjenclcidnkaaDoorSum
import Derived.Test.YtojjenclcidnkaaDoorBytes
import Derived.Test.YtojjenclcidnkaaDoorMem
import Derived.WalkKit
import Derived.ProofKit
import Derived.Lib.Hide
import Derived.Lib.ItoaNum
import Derived.Lib.ItoaMem
import Derived.Lib.ItoaLen
import Derived.WalkSpells
import Derived.WalkSmall
import Derived.Deep.QuietTactic
import Derived.BigQuiet
import Derived.Deep.Draws
import Derived.Deep.RegionHeld3
set_option maxRecDepth 100000
namespace Go.Proofs.YtojjenclcidnkaaDoor
open Go.ChangeShapes Go.WideShapes Go.ChangeAt Go.RowKit Go.Proofs.Palim

theorem infoStr : (Tryd.prog.info? 9).map (fun i => (i.zero, i.size, i.bytes)) = some (some (.string ⟨#[]⟩), 1, 16) := by kernel_rfl

/-- A new list of strings of the call's own. -/
def NewStrs (w : World) (ss : List ByteArray) (e : Ending) (w' : World) : Prop :=
  ∃ v, e = .returned v ∧ w'.ownsRow w.heap.size 9 1 v ss.length (scs ss) ∧ Below w.heap.size w w'

theorem drewN_zero (w : World) : w.drewN 0 = w := rfl
/-- Only the count of draws has moved. -/
def Drawn (v : Value) (w : World) (e : Ending) (w' : World) : Prop := e = .returned v ∧ ∃ q, w' = w.drewN q

/-- The bytes of a list of strings. -/
def tot (ss : List ByteArray) : Nat := (ss.map ByteArray.size).sum
theorem tot_snoc (a : List ByteArray) (s : ByteArray) : tot (a ++ [s]) = tot a + s.size := by simp [tot]
/-- What is left behind n elements and t bytes; or less than nothing. -/
def SzPost (m : Nat) (left : Int) (w : World) (e : Ending) (w' : World) : Prop := ∃ r : Int, e = .returned (.int .i64 r) ∧ w = w' ∧ (r = -1 ∨ 0 ≤ r ∧ r + m = left)

/-- The text of a mark. -/
def mkText (k : Nat) : ByteArray := ⟨(109 :: Lib.decDigits k).toArray⟩

/-- The marks from k on. -/
def marks (k n : Nat) : List ByteArray := (List.range n).map fun i => mkText (k + i)
theorem marks_length (k n : Nat) : (marks k n).length = n := by simp [marks]
theorem marks_succ (k n : Nat) : marks k (n + 1) = marks k n ++ [mkText (k + n)] := by simp [marks, List.range_succ]
theorem marks_at (k n i : Nat) (h' : i < (marks k n).length) : (marks k n)[i] = mkText (k + i) := by simp [marks]

/-- Marked: the slice holds the marks, and nothing else that was there has turned. -/
def Marked (k : Nat) (v : Value) (base n : Nat) (w : World) (e : Ending) (w' : World) : Prop :=
  e = .returned (.int .i64 ((k + n : Nat) : Int)) ∧ w'.ownsRow base 9 1 v n (scs (marks k n)) ∧ Turned (fun b => v.ownBlock = some b) w w'

def HeldPost (r : Int) (w : World) (e : Ending) (w' : World) : Prop := e = .returned (.int .i64 r) ∧ Below w.heap.size w w'

end Go.Proofs.YtojjenclcidnkaaDoor
