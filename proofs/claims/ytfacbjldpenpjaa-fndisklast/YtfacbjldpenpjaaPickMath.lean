/-
  The number that a reader picks past its code's end lies below its bound: plain arithmetic.
-/
import Derived.WalkKit
import Derived.IntWalk
namespace Go.Proofs.Palim
open Go Go.RowKit

/-- The exclusive or of two small numbers is not negative. -/
theorem xor_small (a b : Nat) (ha : a < 4294967296) (hb : b < 4294967296) : 0 ≤ bits .xor .i64 (a : Int) (b : Int) := by
  have e : bits .xor .i64 (a : Int) (b : Int) = IntKind.i64.wrap ((BitVec.ofInt 64 (a : Int) ^^^ BitVec.ofInt 64 (b : Int)).toNat : Int) := rfl
  have one : ∀ c : Nat, c < 4294967296 → (BitVec.ofInt 64 (c : Int)).toNat = c := fun c hc => by
    rw [BitVec.ofInt_natCast, BitVec.toNat_ofNat, Nat.mod_eq_of_lt (by omega)]
  have lt : a ^^^ b < 2 ^ 32 := Nat.xor_lt_two_pow (by omega) (by omega)
  rw [e, BitVec.toNat_xor, one a ha, one b hb, IntWalk.i64_in _ (by omega)]
  exact Int.natCast_nonneg _

theorem pick_val (x y : UInt8) (k n m : Nat) (hk : k ≤ 1000000) (hm : 0 < m) : ∃ r : Nat, r < m ∧
    (bits .xor .i64 (wrap64 ((x.toNat : Int) * 131 + (y.toNat : Int) * 1117 + (k : Int) * 29 + wrap64 (wrap64 ((k : Int) / (n : Int)) * 53)))
      (wrap64 ((wrap64 ((x.toNat : Int) * 131 + (y.toNat : Int) * 1117 + (k : Int) * 29 + wrap64 (wrap64 ((k : Int) / (n : Int)) * 53))).tdiv 64))).tmod (m : Int) = (r : Int) := by
  have hx := x.toNat_lt
  have hy := y.toNat_lt
  have hq : k / n ≤ k := Nat.div_le_self _ _
  obtain ⟨Q, hQ, hQ1⟩ : ∃ Q : Nat, (k : Int) / (n : Int) = (Q : Int) ∧ Q ≤ k := ⟨k / n, rfl, hq⟩
  rw [hQ, IntWalk.wrap64_in (Q : Int) (by omega), IntWalk.wrap64_in ((Q : Int) * 53) (by omega)]
  obtain ⟨X, hX, hX1⟩ : ∃ X : Nat, (x.toNat : Int) * 131 + (y.toNat : Int) * 1117 + (k : Int) * 29 + (Q : Int) * 53 = (X : Int) ∧ X < 4294967296 :=
    ⟨x.toNat * 131 + y.toNat * 1117 + k * 29 + Q * 53, by omega, by omega⟩
  rw [hX, IntWalk.wrap64_in (X : Int) (by omega)]
  have e1 : (X : Int).tdiv 64 = ((X / 64 : Nat) : Int) := rfl
  rw [e1, IntWalk.wrap64_in ((X / 64 : Nat) : Int) (by omega)]
  have h0 := xor_small X (X / 64) hX1 (by omega)
  obtain ⟨Y, hY⟩ : ∃ Y : Nat, bits .xor .i64 (X : Int) ((X / 64 : Nat) : Int) = (Y : Int) := ⟨(bits .xor .i64 (X : Int) ((X / 64 : Nat) : Int)).toNat, by omega⟩
  rw [hY]
  exact ⟨Y % m, Nat.mod_lt _ hm, rfl⟩
end Go.Proofs.Palim
