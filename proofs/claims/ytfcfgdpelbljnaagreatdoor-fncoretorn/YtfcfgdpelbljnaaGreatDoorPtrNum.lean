/-
  The document's reader of numbers, and its cutter of texts.
-/
import Derived.Test.YtfcfgdpelbljnaaGreatDoorRows
import Derived.Test.YtfcfgdpelbljnaaGreatDoorPtrMath
import Derived.Test.YtfcfgdpelbljnaaGreatDoorBase
import Derived.Test.YtfcfgdpelbljnaaGreatDoorTexts
import Derived.WalkKit
import Derived.ProofKit
import Derived.Lib.Hide
import Derived.Deep.Cut
set_option maxRecDepth 100000
namespace Go.Proofs.YtfcfgdpelbljnaaGreatDoor
open Go.ChangeShapes Go.WideShapes Go.ChangeAt Go.RowKit Go.Proofs.Palim

/-- A number is read off a text: some number, and whether it is one; at a numeral just that. -/
def NumRead (s : ByteArray) (w : World) (e : Ending) (w' : World) : Prop :=
  ∃ (n : Int) (b : Bool), e = .returned (.tuple #[.int .i64 n, .bool b]) ∧ w = w' ∧ ∀ m : Nat, m < 100000000 → s.data.toList = Lib.decDigits m → n = (m : Int) ∧ b = true

theorem size_list (s : ByteArray) : s.size = s.data.toList.length := (Array.length_toList).symm
theorem at_list (s : ByteArray) (k : Nat) (h : k < s.size) : s[k] = s.data.toList[k]'(by rw [← size_list]; exact h) := rfl

/-- A byte that is no digit: no numeral. -/
theorem none_of (s : ByteArray) (k : Nat) (hk : k < s.size) (hd : ¬ (48 ≤ s[k].toNat ∧ s[k].toNat ≤ 57)) : ∀ m : Nat, m < 100000000 → s.data.toList = Lib.decDigits m → (0 : Int) = (m : Int) ∧ false = true :=
  fun m _ e => (hd (dd_all m _ (by rw [← e]; exact List.getElem_mem _))).elim

end Go.Proofs.YtfcfgdpelbljnaaGreatDoor
