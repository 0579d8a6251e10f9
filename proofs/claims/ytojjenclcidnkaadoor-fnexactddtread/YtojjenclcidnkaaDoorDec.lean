/-
  The document's decimal numeral of a number that is not negative.
-/
import Derived.Test.YtojjenclcidnkaaDoorRows
import Derived.Test.YtojjenclcidnkaaDoorBytes
import Derived.Test.YtojjenclcidnkaaDoorSum
import Derived.WalkKit
import Derived.ProofKit
import Derived.Lib.Hide
import Derived.Lib.ItoaNum
import Derived.Lib.ItoaMem
import Derived.Lib.ItoaLen
import Derived.WalkSpells
set_option maxRecDepth 100000
namespace Go.Proofs.YtojjenclcidnkaaDoor
open Go.ChangeShapes Go.WideShapes Go.ChangeAt Go.RowKit Go.Proofs.Palim

set_option maxHeartbeats 400000 in
theorem l19Dec_nat (n : Nat) (w : World) (hn : n < 9223372036854775807) :
    Calls Tryd.prog 18 #[.int .i64 (n : Int)] w fun e w' => e = .returned (.string ⟨(Lib.decDigits n).toArray⟩) ∧ Below w.heap.size w w' := by
  go_enter Tryd.func18, Tryd.ntmps18
  go_wp2
  go_loopw [0, 3] (fun i v wr => ∃ (m : Nat) (o : List UInt8), m ≤ n ∧ i = .int .i64 (m : Int) ∧ v = .string ⟨o.toArray⟩ ∧ Below w.heap.size w wr ∧ Hid (Lib.decDigits n = Lib.decDigits m ++ o)) (fun i _ _ => (intOf i).toNat)
  case atStart => exact ⟨n, [], Nat.le_refl _, rfl, rfl, Below.refl _ _, Lib.hid (by simp)⟩
  case round =>
    obtain ⟨m, o, hm, rfl, rfl, hb, HD⟩ := hrel
    have ho : o.length ≤ 21 := by
      have h1 := congrArg List.length HD.out
      have h2 := Lib.itoa_length_le (n : Int) (by omega) (by omega)
      rw [Lib.itoa_nonneg] at h2
      rw [List.length_append] at h1
      omega
    by_cases hlt : 9 < m
    · obtain ⟨c, HC⟩ : ∃ c, Hid (c = UInt8.ofNat (48 + m % 10)) := ⟨_, Lib.hid rfl⟩
      have hcv := run_convert_one (P := Tryd.prog) wr 55 9 5 Tryd.underlying55 Tryd.underlying5 Tryd.underlying9 (48 + (m : Int) % 10) c (by rw [HC.out]; exact digit_of m)
      have HN := Lib.hid (show Lib.decDigits m = Lib.decDigits (m / 10) ++ [c] from by rw [HC.out, Lib.decDigits, dif_neg (by omega)])
      go_wp2
      go_roundw
      case rel => exact ⟨m / 10, c :: o, by omega, by go_num, by rw [show (⟨#[c]⟩ : ByteArray) = ⟨[c].toArray⟩ from rfl, str_app]; rfl, hb.alloc hb.size _, Lib.hid (by rw [HD.out, HN.out]; simp)⟩
      case measure => simp [intOf]; omega
    · obtain ⟨c, HC⟩ : ∃ c, Hid (c = UInt8.ofNat (48 + m)) := ⟨_, Lib.hid rfl⟩
      have hcv := run_convert_one (P := Tryd.prog) wr 55 9 5 Tryd.underlying55 Tryd.underlying5 Tryd.underlying9 (48 + (m : Int)) c (by rw [HC.out]; exact digit_small m (by omega))
      have HN := Lib.hid (show Lib.decDigits m = [c] from by rw [HC.out]; exact Lib.decDigits_one (by omega))
      go_wp2
      go_ret
      refine ⟨?_, hb.alloc hb.size _⟩
      show Ending.returned (.string ((⟨[c].toArray⟩ : ByteArray) ++ ⟨o.toArray⟩)) = _
      rw [str_app, HD.out, HN.out]

theorem l19Dec_int (z : Int) (w : World) (h0 : 0 ≤ z) (h1 : z < 9223372036854775807) :
    Calls Tryd.prog 18 #[.int .i64 z] w fun e w' => e = .returned (.string ⟨(Lib.itoa z).toArray⟩) ∧ Below w.heap.size w w' := by
  obtain ⟨n, rfl⟩ : ∃ n : Nat, z = (n : Int) := ⟨z.toNat, by omega⟩
  rw [Lib.itoa_nonneg]
  exact l19Dec_nat n w (by omega)
end Go.Proofs.YtojjenclcidnkaaDoor
