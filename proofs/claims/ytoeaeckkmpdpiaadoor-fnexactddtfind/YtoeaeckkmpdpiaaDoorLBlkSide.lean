/-
  The law on BlkSide, walked.
-/
import Derived.Test.YtoeaeckkmpdpiaaDoorBlkRS
import Derived.Test.YtoeaeckkmpdpiaaDoorLDiskOk
set_option maxRecDepth 100000
namespace Go.Proofs.YtoeaeckkmpdpiaaDoor
open Go.ChangeShapes Go.WideShapes Go.ChangeAt Go.RowKit Go.Proofs.Palim

theorem below_three {a b c d : World} (h1 : Below a.heap.size a.drew b) (h2 : Below b.heap.size b c) (h3 : Below c.heap.size c d) : Below a.heap.size a d :=
  (((Below.refl _ a).drew.trans h1).trans (h2.mono h1.size)).trans (h3.mono (Nat.le_trans h1.size h2.size))
theorem below_two {a b c : World} (h1 : Below a.heap.size a.drew b) (h2 : Below b.heap.size b c) : Below a.heap.size a c :=
  ((Below.refl _ a).drew.trans h1).trans (h2.mono h1.size)
theorem DiskR.drew {w : World} {v0 v1 vl : Value} {d : DiskM} (h : DiskR w v0 v1 vl d) : DiskR w.drew v0 v1 vl d := h.below (Below.refl _ w).drew

end Go.Proofs.YtoeaeckkmpdpiaaDoor
