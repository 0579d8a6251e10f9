/-
  The law FnExactDiskWrite, but for impl's contract.
-/
import Derived.Test.YtfcfgdpelbljnaaGreatDoorRows
import Derived.Test.YtfcfgdpelbljnaaGreatDoorLDiskFlush
import Derived.Test.YtfcfgdpelbljnaaGreatDoorDisks
import Derived.Test.YtfcfgdpelbljnaaGreatDoorFrame
import Derived.WalkKit
import Derived.ProofKit
import Derived.OpenShut
import Derived.ShutString
namespace Go.Proofs.YtfcfgdpelbljnaaGreatDoor
open Go.ChangeShapes Go.WideShapes Go.ChangeAt Go.RowKit Go.Proofs.Palim


def ImplDiskWrite : Prop := ∀ (d : DiskM) (side at_ : Int) (text : ByteArray) (v0 v1 vl : Value) (w : World), text.size ≤ maxLen → DiskR w v0 v1 vl d → DiskShort d → Calls Tryz.prog 8 #[.agg #[v0, v1, vl], .int .i64 side, .int .i64 at_, .string text] w (NewDisk2 w (writeM d side at_ text) (decide (CanWrite d side at_ text)))

theorem short_write {d : DiskM} {side at_ : Int} {text : ByteArray} (ht : text.size ≤ 1048576) (h : DiskShort d) : DiskShort (writeM d side at_ text) := by
  unfold writeM
  split
  · rename_i hc
    have h6 := hc.1.2.2.2.1
    refine ⟨h.n0, h.n1, by simp; omega, h.z0, h.z1, ?_⟩
    intro x hx
    rcases List.mem_append.1 hx with hx | hx
    · exact h.zl x hx
    · obtain rfl := List.mem_singleton.1 hx
      exact ht
  · split
    · exact h
    · exact short_no

namespace fnExactDiskWrite
theorem own : ownKnob Tryz.prog.godebug = none := by kernel_rfl
theorem laidOut : laidOutB Tryz.prog = true := by kernel_rfl
end fnExactDiskWrite
end Go.Proofs.YtfcfgdpelbljnaaGreatDoor
