/-
  The plain mathematics of the document's checksum: a fold over the bytes, bounded by the modulus.
-/
import Derived.WalkKit
set_option maxRecDepth 100000
namespace Go.Proofs.Palim
open Go

/-- The checksum after one more byte. -/
def sumStep (n : Int) (c : UInt8) : Int := (257 * n + (c.toNat : Int) + 1) % 65521
/-- The checksum of a list of bytes, from a start. -/
def sumFrom (n : Int) (l : List UInt8) : Int := l.foldl sumStep n

theorem sumStep_bd (n : Int) (c : UInt8) : 0 ≤ sumStep n c ∧ sumStep n c < 65521 := by
  unfold sumStep; omega
theorem sumFrom_bd (l : List UInt8) : ∀ n : Int, 0 ≤ n → n < 65521 → 0 ≤ sumFrom n l ∧ sumFrom n l < 65521 := by
  induction l with
  | nil => intro n h1 h2; exact ⟨h1, h2⟩
  | cons c l ih => intro n _ _; exact ih _ (sumStep_bd n c).1 (sumStep_bd n c).2
theorem sumFrom_snoc (n : Int) (l : List UInt8) (c : UInt8) : sumFrom n (l ++ [c]) = sumStep (sumFrom n l) c := by
  simp [sumFrom]
theorem take_snoc (s : ByteArray) (k : Nat) (h : k < s.size) : s.data.toList.take (k + 1) = s.data.toList.take k ++ [s[k]] := by
  rw [List.take_succ_eq_append_getElem (by simpa using h)]; rfl
theorem ret_int {k : IntKind} {a b : Int} (h : a = b) : Ending.returned (.int k a) = .returned (.int k b) := by rw [h]
/-- The checksum of a text. -/
def sumOf (s : ByteArray) : Int := sumFrom (1 + (s.size : Int) % 997) s.data.toList
theorem sumOf_bd (s : ByteArray) : 0 ≤ sumOf s ∧ sumOf s < 65521 :=
  sumFrom_bd _ _ (by omega) (by omega)
end Go.Proofs.Palim
