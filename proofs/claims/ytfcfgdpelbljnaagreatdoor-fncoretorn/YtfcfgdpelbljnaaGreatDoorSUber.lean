/-
  spec's CoreUberRead.
-/
import Derived.Test.YtfcfgdpelbljnaaGreatDoorUberM
set_option maxRecDepth 100000
namespace Go.Proofs.YtfcfgdpelbljnaaGreatDoor
open Go.ChangeShapes Go.WideShapes Go.ChangeAt Go.RowKit Go.Proofs.Palim

theorem open_small {t s : ByteArray} (h : openB t = some s) : s.size ≤ 400 := by
  have h1 := seal_of_open h
  refine Classical.byContradiction fun hn => open_ne h ?_
  rw [← h1]; unfold sealB; rw [if_pos (by omega)]
/-- What reading the ring's word gives. -/
def UReadPost (t : ByteArray) (w : World) (e : Ending) (w' : World) : Prop :=
  Below w.heap.size w w' ∧ ((∃ n p, Spells t n p ∧ e = .returned (.tuple #[.int .i64 n, pv p, .bool true])) ∨ ((∀ n p, ¬ Spells t n p) ∧ e = .returned (.tuple #[.int .i64 0, pv noPtr, .bool false])))
theorem three_cells {w : World} {v : Value} {ps : List ByteArray} (h : Sl w 1 v ps.length (scs ps)) (h3 : ps.length = 3) : ∃ b off c, v = .slice (some ⟨b, off, none⟩) 3 c ∧ 3 ≤ c ∧ c ≤ maxLen ∧ w.cell? ⟨b, off, none⟩ = some (.string (ps[0]'(by omega))) ∧ w.cell? ⟨b, off + 1, none⟩ = some (.string (ps[1]'(by omega))) := by
  rw [h3] at h
  obtain ⟨b, off, c, rfl, h1, h2, hc⟩ := h.form (by omega)
  refine ⟨b, off, c, rfl, h1, h2, ?_, ?_⟩
  · have := hc 0 _ (scs_at ps 0 (by omega)); simpa using this
  · exact hc 1 _ (scs_at ps 1 (by omega))

end Go.Proofs.YtfcfgdpelbljnaaGreatDoor
