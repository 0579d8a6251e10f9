/-
  The law on BlkRead, walked.
-/
import Derived.Test.YtoeaeckkmpdpiaaDoorLBlkSide
set_option maxRecDepth 100000
namespace Go.Proofs.YtoeaeckkmpdpiaaDoor
open Go.ChangeShapes Go.WideShapes Go.ChangeAt Go.RowKit Go.Proofs.Palim

theorem specRead_is (v0 v1 vl : Value) (d : DiskM) (p : PtrM) (w : World) (h : DiskR w v0 v1 vl d) (hs : DiskShort d) (tx : ByteArray) (cd : Int) (h1 : blkText d p = tx) (h2 : blkCode d p = cd) :
    Calls Tryd.prog 36 #[.agg #[v0, v1, vl], pv p] w fun e w' => e = .returned (.tuple #[.string tx, .int .i64 cd]) ∧ Below w.heap.size w w' := h1 ▸ h2 ▸ specBlkRead_any v0 v1 vl d p w h hs
theorem implRead_is (v0 v1 vl : Value) (d : DiskM) (p : PtrM) (a0 a1 : Addr) (w : World) (h : DiskR w v0 v1 vl d) (hs : DiskShort d) (he : Errs w a0 a1) (tx : ByteArray) (cd : Int) (h1 : blkText d p = tx) (h2 : blkCode d p = cd) :
    Calls Tryd.prog 68 #[.agg #[v0, v1, vl], pv p] w fun e w' => e = .returned (.tuple #[.string tx, .int .i64 cd]) ∧ Below w.heap.size w w' := h1 ▸ h2 ▸ implBlkRead_any v0 v1 vl d p a0 a1 w h hs he

end Go.Proofs.YtoeaeckkmpdpiaaDoor
