/-
  spec's DiskWrite.
-/
import Derived.Test.YtobjgdnmlibofaaGreatDiskCopy
import Derived.Test.YtobjgdnmlibofaaGreatDiskRead2
set_option maxRecDepth 100000
namespace Go.Proofs.YtobjgdnmlibofaaGreat
open Go.ChangeShapes Go.WideShapes Go.ChangeAt Go.RowKit Go.Proofs.Palim

def CanWrite (d : DiskM) (side at_ : Int) (text : ByteArray) : Prop := DiskOkM d ∧ There d.s0.length side at_ text.size ∧ d.late.length ≠ 600
instance (d : DiskM) (side at_ : Int) (text : ByteArray) : Decidable (CanWrite d side at_ text) := by unfold CanWrite; infer_instance
def writeM (d : DiskM) (side at_ : Int) (text : ByteArray) : DiskM :=
  if CanWrite d side at_ text then ⟨d.s0, d.s1, d.late ++ [⟨side, at_, text⟩]⟩ else if DiskOkM d then d else noDisk
def NewDisk2 (w : World) (d : DiskM) (b : Bool) (e : Ending) (w' : World) : Prop :=
  ∃ v0 v1 vl, e = .returned (.tuple #[.agg #[v0, v1, vl], .bool b]) ∧ DiskOwn w' w.heap.size v0 v1 vl d ∧ Below w.heap.size w w'

theorem DiskOwn.set3 {w : World} {base : Nat} {v0 v1 vl : Value} {d : DiskM} (h : DiskOwn w base v0 v1 vl d) {a b c : Addr} {x y z : Value} (ha : a.block < base) (hb : b.block < base) (hc : c.block < base) :
    DiskOwn (((w.setCell a x).setCell b y).setCell c z) base v0 v1 vl d :=
  h.kept fun k _ hk => by
    rw [Below.heap_setCell _ _ _ _ (by omega), Below.heap_setCell _ _ _ _ (by omega), Below.heap_setCell _ _ _ _ (by omega)]

end Go.Proofs.YtobjgdnmlibofaaGreat
