/-
  spec's DiskFall.
-/
import Derived.Test.YtfcfgdpelbljnaaGreatDoorTorn
import Derived.Test.YtfcfgdpelbljnaaGreatDoorRotB
import Derived.Test.YtfcfgdpelbljnaaGreatDoorDraws
import Derived.StillTailTactics
set_option maxRecDepth 100000
namespace Go.Proofs.YtfcfgdpelbljnaaGreatDoor
open Go.ChangeShapes Go.WideShapes Go.ChangeAt Go.RowKit Go.Proofs.Palim

theorem DiskOwn.put0' {w : World} {base g c n : Nat} {v1 vl : Value} {d : DiskM} (ho : DiskOwn w base (.slice (some ⟨g, 0, none⟩) n c) v1 vl d) (k : Nat) (t : ByteArray) (hn : d.s0.length = n) :
    DiskOwn (w.setCell ⟨g, k, none⟩ (.string t)) base (.slice (some ⟨g, 0, none⟩) n c) v1 vl (putM d 0 (k : Int) t) ∧ Turned (DTurns (.slice (some ⟨g, 0, none⟩) n c) v1 vl) w (w.setCell ⟨g, k, none⟩ (.string t)) := by subst hn; exact ho.put0 k t
theorem DiskOwn.put1' {w : World} {base g c n : Nat} {v0 vl : Value} {d : DiskM} (ho : DiskOwn w base v0 (.slice (some ⟨g, 0, none⟩) n c) vl d) (k : Nat) (t : ByteArray) (hn : d.s1.length = n) :
    DiskOwn (w.setCell ⟨g, k, none⟩ (.string t)) base v0 (.slice (some ⟨g, 0, none⟩) n c) vl (putM d 1 (k : Int) t) ∧ Turned (DTurns v0 (.slice (some ⟨g, 0, none⟩) n c) vl) w (w.setCell ⟨g, k, none⟩ (.string t)) := by subst hn; exact ho.put1 k t

end Go.Proofs.YtfcfgdpelbljnaaGreatDoor
