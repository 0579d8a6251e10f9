/-
  The law on DiskFlush, walked: what is asked of impl is hI.
-/
import Derived.Test.YtfcfgdpelbljnaaGreatDoorLDiskOk
import Derived.Test.YtfcfgdpelbljnaaGreatDoorDisks
set_option maxRecDepth 100000
namespace Go.Proofs.YtfcfgdpelbljnaaGreatDoor
open Go.ChangeShapes Go.WideShapes Go.ChangeAt Go.RowKit Go.Proofs.Palim

/-- A disk that lies above another one is as it was when that one has been marked. -/
theorem DiskOwn.above {w w' : World} {B C : Nat} {v0 v1 vl u0 u1 ul : Value} {d : DiskM} (h : DiskOwn w C v0 v1 vl d) (ht : Turned (DTurns u0 u1 ul) w w') (hl : DiskLow B u0 u1 ul) (hB : B ≤ C) : DiskOwn w' C v0 v1 vl d :=
  h.kept fun b hb hc => ht.block b hb (hl.past (by omega))

end Go.Proofs.YtfcfgdpelbljnaaGreatDoor
