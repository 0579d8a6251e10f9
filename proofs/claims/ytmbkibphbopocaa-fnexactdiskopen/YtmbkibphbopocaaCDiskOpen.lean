/-
  At every number of sectors impl.DiskOpen answers as its model: laws.FnExactDiskOpen returns true; no condition.
-/
import Derived.Test.YtmbkibphbopocaaPDiskOpen
import Derived.Test.YtmbkibphbopocaaImDiskOpen
namespace Go.Proofs.Ytmbkibphbopocaa
theorem fnExactDiskOpen_holds : Rows.FnExactDiskOpenSaid := fnExactDiskOpen_of ImplDiskOpen_any
end Go.Proofs.Ytmbkibphbopocaa
