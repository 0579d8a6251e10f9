/-
  At every disk impl.DiskFlush answers as its model, writes into no argument and owns its answer: laws.FnExactDiskFlush returns true; no condition.
-/
import Derived.Test.YtmbkibphbopocaaPDiskFlush
import Derived.Test.YtmbkibphbopocaaImDiskFlush
namespace Go.Proofs.Ytmbkibphbopocaa
theorem fnExactDiskFlush_holds : Rows.FnExactDiskFlushSaid := fnExactDiskFlush_of ImplDiskFlush_any
end Go.Proofs.Ytmbkibphbopocaa
