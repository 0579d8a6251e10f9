/-
  The two functions that write bytes in hexadecimals return the same text.
-/
import Derived.Test.YtfpplbipnbcpaaaDoorRows
import Derived.Test.YtfpplbipnbcpaaaDoorSum
import Derived.Test.YtfpplbipnbcpaaaDoorBytes
import Derived.Test.YtfpplbipnbcpaaaDoorHexMath
import Derived.WalkKit
import Derived.ProofKit
import Derived.Lib.Hide
import Derived.WalkSpells
import Derived.Deep.RegionHeld3
import Derived.Deep.AppendLies
namespace Go.Proofs.YtfpplbipnbcpaaaDoor
open Go.ChangeShapes Go.WideShapes Go.ChangeAt Go.RowKit Go.Proofs.Palim

theorem infoU8 : (Tryd.prog.info? 5).map (fun i => (i.zero, i.size, i.bytes)) = some (some (.int .u8 0), 1, 1) := by kernel_rfl

end Go.Proofs.YtfpplbipnbcpaaaDoor
