/-
  Names of sets: what a name is, and both BookName.
-/
import Derived.Test.YtojjenclcidnkaaDoorMem
import Derived.Test.YtojjenclcidnkaaDoorRows
import Derived.WalkKit
import Derived.ProofKit
import Derived.Lib.Hide
import Derived.WalkSpells
import Derived.WalkSmall
set_option maxRecDepth 100000
namespace Go.Proofs.YtojjenclcidnkaaDoor
open Go.ChangeShapes Go.WideShapes Go.ChangeAt Go.RowKit Go.Proofs.Palim

/-- The bytes of a name are small letters. -/
def Letters (s : ByteArray) (k : Nat) : Prop := ∀ (i : Nat) (h : i < s.size), i < k → 97 ≤ s[i].toNat ∧ s[i].toNat ≤ 122
def NameOk (s : ByteArray) : Prop := 1 ≤ s.size ∧ s.size ≤ 6 ∧ Letters s s.size
instance (s : ByteArray) (k : Nat) : Decidable (Letters s k) := by unfold Letters; exact inferInstance
instance (s : ByteArray) : Decidable (NameOk s) := by unfold NameOk; exact inferInstance
theorem letters_succ {s : ByteArray} {k : Nat} (h : k < s.size) (hl : Letters s k) (h1 : 97 ≤ s[k].toNat) (h2 : s[k].toNat ≤ 122) : Letters s (k + 1) := by
  intro i hi hk
  by_cases e : i = k
  · subst e; exact ⟨h1, h2⟩
  · exact hl i hi (by omega)
theorem name_bad {s : ByteArray} {k : Nat} (h : k < s.size) (hb : s[k].toNat < 97 ∨ 122 < s[k].toNat) : decide (NameOk s) = false := by
  refine decide_eq_false ?_
  rintro ⟨_, _, hl⟩
  have := hl k h h
  omega
theorem name_len {s : ByteArray} (h : s.size < 1 ∨ 6 < s.size) : decide (NameOk s) = false := by
  refine decide_eq_false ?_
  rintro ⟨_, _, hl⟩
  omega
theorem name_good {s : ByteArray} {k : Nat} (h0 : 1 ≤ s.size) (h6 : s.size ≤ 6) (hk : s.size ≤ k) (hl : Letters s k) : decide (NameOk s) = true :=
  decide_eq_true ⟨h0, h6, fun i hi _ => hl i hi (by omega)⟩

end Go.Proofs.YtojjenclcidnkaaDoor
