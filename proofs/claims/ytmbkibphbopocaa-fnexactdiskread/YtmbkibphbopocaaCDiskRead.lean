/-
  At every disk and sector impl.DiskRead answers as its model and writes into no argument: laws.FnExactDiskRead returns true; no condition.
-/
import Derived.Test.YtmbkibphbopocaaPDiskRead
import Derived.Test.YtmbkibphbopocaaImDiskRead
namespace Go.Proofs.Ytmbkibphbopocaa
theorem fnExactDiskRead_holds : Rows.FnExactDiskReadSaid := fnExactDiskRead_of ImplDiskRead_any
end Go.Proofs.Ytmbkibphbopocaa
