/-
  The function that reads bytes in hexadecimals and panics where it can't.
-/
import Derived.Test.YtfcfgdpelbljnaaGreatDoorHexT
import Derived.WalkKit
import Derived.ProofKit
import Derived.Lib.Hide
import Derived.WalkSpells
import Derived.WalkSmall
import Derived.Deep.RegionHeld3
import Derived.Deep.RegionWith
import Derived.Deep.AppendLies
set_option maxRecDepth 100000
namespace Go.Proofs.YtfcfgdpelbljnaaGreatDoor
open Go.ChangeShapes Go.WideShapes Go.ChangeAt Go.RowKit Go.Proofs.Palim

theorem or16 : ∀ p, p < 16 → ∀ q, q < 16 → bits .or .u8 (IntKind.u8.wrap ((p : Nat) * 16 : Int)) ((q : Nat) : Int) = ((UInt8.ofNat (p * 16 + q)).toNat : Int) := by decide +kernel

def SumBytesPost (s : ByteArray) (w : World) (e : Ending) (w' : World) : Prop :=
  Below w.heap.size w w' ∧ ((∃ o, unhex s.data.toList = some o ∧ e = .returned (.string ⟨o.toArray⟩)) ∨ (unhex s.data.toList = none ∧ e = .panicked malformed))

end Go.Proofs.YtfcfgdpelbljnaaGreatDoor
