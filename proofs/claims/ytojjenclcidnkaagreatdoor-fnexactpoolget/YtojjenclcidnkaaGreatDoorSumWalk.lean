/-
  The two checksum functions return the checksum of their text, and change nothing.
-/
import Derived.Test.YtojjenclcidnkaaGreatDoorRows
import Derived.Test.YtojjenclcidnkaaGreatDoorBase
import Derived.WalkKit
import Derived.ProofKit
import Derived.Lib.Hide
set_option maxRecDepth 100000
namespace Go.Proofs.YtojjenclcidnkaaGreatDoor
open Go.ChangeShapes Go.WideShapes Go.ChangeAt Go.RowKit Go.Proofs.Palim

set_option maxHeartbeats 400000 in
theorem with_any (n : Int) (c : UInt8) (w : World) (h0 : 0 ≤ n) (h1 : n < 65521) :
    Calls Tryz.prog 157 #[.int .i64 n, .int .u8 (c.toNat : Int)] w fun e w' => e = .returned (.int .i64 (sumStep n c)) ∧ w = w' := by
  have hc := c.toNat_lt
  go_enter Tryz.func157, Tryz.ntmps157
  go_wp2
  go_ret
  exact ⟨ret_int (by unfold sumStep; rfl), rfl⟩

set_option maxHeartbeats 400000 in
theorem specSumOf_any (s : ByteArray) (w : World) (hs : s.size ≤ maxLen) :
    Calls Tryz.prog 97 #[.string s] w fun e w' => e = .returned (.int .i64 (sumOf s)) ∧ w = w' := by
  unfold maxLen at hs
  go_enter Tryz.func97, Tryz.ntmps97
  go_wp2
  go_loop [3, 4] (fun n i => ∃ k : Nat, k ≤ s.size ∧ i = .int .i64 k ∧ n = .int .i64 (sumFrom (1 + (s.size : Int) % 997) (s.data.toList.take k))) (fun _ i => s.size - (intOf i).toNat)
  case atStart => exact ⟨0, Nat.zero_le _, rfl, rfl⟩
  case round =>
    obtain ⟨k, hk, rfl, rfl⟩ := hrel
    have hb := sumFrom_bd (s.data.toList.take k) (1 + (s.size : Int) % 997) (by omega) (by omega)
    by_cases hlt : k < s.size
    · have hsn := sumFrom_snoc (1 + (s.size : Int) % 997) (s.data.toList.take k) s[k]
      rw [← take_snoc s k hlt] at hsn
      have HS := Lib.hid hsn
      clear hsn
      have hc := s[k].toNat_lt
      go_wp2
      go_round
      case rel => exact ⟨k + 1, by omega, by go_num, by rw [HS.out]; unfold sumStep; go_num⟩
      case measure => simp [intOf]; omega
    · go_wp2
      go_ret
      exact ⟨ret_int (by unfold sumOf; rw [List.take_of_length_le (by simp; omega)]), rfl⟩

set_option maxHeartbeats 400000 in
theorem implSumOf_any (s : ByteArray) (w : World) (hs : s.size ≤ maxLen) :
    Calls Tryz.prog 140 #[.string s] w fun e w' => e = .returned (.int .i64 (sumOf s)) ∧ w = w' := by
  unfold maxLen at hs
  go_enter Tryz.func140, Tryz.ntmps140
  go_wp2
  go_loop [3, 4, 11] (fun n _ i => ∃ k : Nat, k ≤ s.size ∧ i = .int .i64 k ∧ n = .int .i64 (sumFrom (1 + (s.size : Int) % 997) (s.data.toList.take k))) (fun _ _ i => s.size - (intOf i).toNat)
  case atStart => exact ⟨0, Nat.zero_le _, rfl, rfl⟩
  case round =>
    obtain ⟨k, hk, rfl, rfl⟩ := hrel
    have hb := sumFrom_bd (s.data.toList.take k) (1 + (s.size : Int) % 997) (by omega) (by omega)
    by_cases hlt : k < s.size
    · have hsn := sumFrom_snoc (1 + (s.size : Int) % 997) (s.data.toList.take k) s[k]
      rw [← take_snoc s k hlt] at hsn
      have HS := Lib.hid hsn
      clear hsn
      go_wp2_with (go_at_call 157; refine (with_any _ _ _ (by omega) (by omega)).mono ?_; rintro e w' ⟨rfl, rfl⟩)
      go_round
      case rel => exact ⟨k + 1, by omega, by go_num, by rw [HS.out]⟩
      case measure => simp [intOf]; omega
    · go_wp2
      go_ret
      exact ⟨ret_int (by unfold sumOf; rw [List.take_of_length_le (by simp; omega)]), rfl⟩
end Go.Proofs.YtojjenclcidnkaaGreatDoor
