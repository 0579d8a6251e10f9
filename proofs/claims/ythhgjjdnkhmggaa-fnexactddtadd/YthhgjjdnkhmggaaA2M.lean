/-
  Pairs of lists of strings: marked, and asked for marks.
-/
import Derived.Test.YthhgjjdnkhmggaaA2
namespace Go.Proofs.Ythhgjjdnkhmggaa
open Go.ChangeShapes Go.WideShapes Go.ChangeAt Go.RowKit Go.Proofs.Palim

def MarkedPair (k : Nat) (v0 v1 : Value) (base n0 n1 : Nat) (w : World) (e : Ending) (w' : World) : Prop :=
  e = .returned (.int .i64 ((k + n0 + n1 : Nat) : Int)) ∧ w'.ownsRow base 9 1 v0 n0 (scs (marks k n0)) ∧ w'.ownsRow base 9 1 v1 n1 (scs (marks (k + n0) n1)) ∧ Turned (fun b => v0.ownBlock = some b ∨ v1.ownBlock = some b) w w'

end Go.Proofs.Ythhgjjdnkhmggaa
