/-
  The law FnExactDiskFlush, but for impl's contract.
-/
import Derived.Test.YtfcfgdpelbljnaaGreatDoorRows
import Derived.Test.YtfcfgdpelbljnaaGreatDoorLDiskFlush
import Derived.Test.YtfcfgdpelbljnaaGreatDoorFrame
import Derived.WalkKit
import Derived.ProofKit
import Derived.OpenShut
namespace Go.Proofs.YtfcfgdpelbljnaaGreatDoor
open Go.ChangeShapes Go.WideShapes Go.ChangeAt Go.RowKit Go.Proofs.Palim


def ImplDiskFlush : Prop := ∀ (d : DiskM) (v0 v1 vl : Value) (w : World), DiskR w v0 v1 vl d → DiskShort d → Calls Tryz.prog 9 #[.agg #[v0, v1, vl]] w (NewDisk w (flushM d))

theorem layAll_all {P : ByteArray → Prop} (ls : List LateM) (hl : ∀ l ∈ ls, P l.text) : ∀ p : List ByteArray × List ByteArray, (∀ s ∈ p.1, P s) → (∀ s ∈ p.2, P s) → (∀ s ∈ (layAll p ls).1, P s) ∧ ∀ s ∈ (layAll p ls).2, P s := by
  induction ls with
  | nil => intro p h1 h2; exact ⟨h1, h2⟩
  | cons l ls ih =>
    intro p h1 h2
    have hx := hl l (by simp)
    refine ih (fun l hl' => hl l (by simp [hl'])) (layM p l.side l.at_.toNat l.text) ?_ ?_
    · intro s hs
      unfold layM at hs
      split at hs
      · rcases List.mem_or_eq_of_mem_set hs with h | rfl
        · exact h1 s h
        · exact hx
      · exact h1 s hs
    · intro s hs
      unfold layM at hs
      split at hs
      · exact h2 s hs
      · rcases List.mem_or_eq_of_mem_set hs with h | rfl
        · exact h2 s h
        · exact hx
theorem short_flush {d : DiskM} (h : DiskShort d) : DiskShort (flushM d) := by
  unfold flushM
  split
  · have hl := layAll_len d.late (d.s0, d.s1)
    have ha := layAll_all (P := fun s => s.size ≤ 1048576) d.late h.zl (d.s0, d.s1) h.z0 h.z1
    exact ⟨by rw [hl.1]; exact h.n0, by rw [hl.2]; exact h.n1, Nat.zero_le _, ha.1, ha.2, by simp⟩
  · exact short_no

namespace fnExactDiskFlush
theorem own : ownKnob Tryz.prog.godebug = none := by kernel_rfl
theorem laidOut : laidOutB Tryz.prog = true := by kernel_rfl
end fnExactDiskFlush
end Go.Proofs.YtfcfgdpelbljnaaGreatDoor
