/-
  At every disk impl.DiskOk answers as its model: laws.FnExactDiskOk returns true; no condition.
-/
import Derived.Test.YtmbkibphbopocaaPDiskOk
import Derived.Test.YtmbkibphbopocaaImDiskOk
namespace Go.Proofs.Ytmbkibphbopocaa
theorem fnExactDiskOk_holds : Rows.FnExactDiskOkSaid := fnExactDiskOk_of ImplDiskOk_any
end Go.Proofs.Ytmbkibphbopocaa
