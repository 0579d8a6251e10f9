/-
  The laws' own helpers on lists of sets: measured, copied, compared.
-/
import Derived.Test.YtojjenclcidnkaaDoorSetS
import Derived.WalkKit
import Derived.ProofKit
import Derived.Lib.Hide
import Derived.WalkSpells
import Derived.WalkSmall
import Derived.Laws.Pointers
set_option maxRecDepth 100000
namespace Go.Proofs.YtojjenclcidnkaaDoor
open Go.ChangeShapes Go.WideShapes Go.ChangeAt Go.RowKit Go.Proofs.Palim

theorem take_set11 {α : Type} (xs : List α) (k : Nat) (a0 a1 a2 a3 a4 a5 a6 a7 a8 a9 a10 : α) (h : k * 11 + 10 < xs.length) :
    ((((((((((((xs.set (k * 11) a0).set (k * 11 + 1) a1).set (k * 11 + 2) a2).set (k * 11 + 3) a3).set (k * 11 + 4) a4).set (k * 11 + 5) a5).set (k * 11 + 6) a6).set (k * 11 + 7) a7).set (k * 11 + 8) a8).set (k * 11 + 9) a9).set (k * 11 + 10) a10)).take ((k + 1) * 11) = xs.take (k * 11) ++ [a0, a1, a2, a3, a4, a5, a6, a7, a8, a9, a10] := by
  rw [show (k + 1) * 11 = k * 11 + 10 + 1 by omega]
  iterate 10 rw [take_set_succ _ _ _ (by simp; omega)]
  rw [take_set_succ _ _ _ (by omega)]
  simp

/-- How many bytes a set holds. -/
def ksz (x : SetM) : Nat := x.name.size + x.frm.size + tot x.bs
/-- A set whose texts may come in. -/
def KFit (x : SetM) : Prop := x.name.size ≤ maxLen ∧ x.frm.size ≤ maxLen ∧ ∀ s ∈ x.bs, s.size ≤ maxLen

/-- How many bytes a list of sets holds. -/
def kszs (ls : List SetM) : Nat := (ls.map ksz).sum
theorem kszs_snoc (a : List SetM) (x : SetM) : kszs (a ++ [x]) = kszs a + ksz x := by simp [kszs]

end Go.Proofs.YtojjenclcidnkaaDoor
