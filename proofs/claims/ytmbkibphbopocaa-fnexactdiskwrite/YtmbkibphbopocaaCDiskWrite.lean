/-
  At every disk, sector and text impl.DiskWrite answers as its model, writes into no argument and owns its answer: laws.FnExactDiskWrite returns true; no condition.
-/
import Derived.Test.YtmbkibphbopocaaPDiskWrite
import Derived.Test.YtmbkibphbopocaaImDiskWrite
namespace Go.Proofs.Ytmbkibphbopocaa
theorem fnExactDiskWrite_holds : Rows.FnExactDiskWriteSaid := fnExactDiskWrite_of ImplDiskWrite_any
end Go.Proofs.Ytmbkibphbopocaa
