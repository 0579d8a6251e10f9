/-
  A disk that came in as an argument, opened: it reads as a disk, and its blocks are there.
-/
import Derived.Test.YtfcfgdpelbljnaaGreatDoorBase
import Derived.OpenShut
import Derived.Deep.Strs
import Derived.ChangeSame
set_option maxRecDepth 100000
namespace Go.Proofs.YtfcfgdpelbljnaaGreatDoor
open Go.ChangeShapes Go.WideShapes Go.ChangeAt Go.RowKit Go.Proofs.Palim Go.Deep

section
variable {H : Type} {enc : TypeId × Value → H} {W : World}

/-- A slice that may come in has its block. -/
theorem low_of_ok {base : Nat} {t e : TypeId} {v : Value} (ht : Tryz.prog.underlying t = some (.slice e)) (h : Cell.okWide Tryz.prog W .any base t v) : Low W.heap.size v := by
  intro b hb
  match v, hb with
  | .slice (some a) n c, hb =>
    simp only [Cell.okWide, ht, Cell.ok] at h
    obtain ⟨_, _, _, _, row, cells, hs, _⟩ := h
    have e : a.block = b := by simpa [Value.ownBlock] using hb
    subst e
    unfold World.shape? at hs
    split at hs
    · rename_i hh
      exact (Array.getElem?_eq_some_iff.1 hh).1
    · cases hs
  | .slice none n c, hb => simp [Value.ownBlock] at hb
  | .pointer (some a), hb => simp [Cell.okWide, ht, Cell.ok] at h

theorem add_none {b off i : Nat} : (⟨b, off, none⟩ : Addr).add i = ⟨b, off + i, none⟩ := by unfold Addr.add; simp

theorem cells9 : Tryz.prog.cellsOf 9 = 1 := by kernel_rfl

/-- A list of strings that came in. -/
theorem strs_of {base fuel : Nat} {v : Value} {x : DataW H × List MemPlace} (ho : Cell.okWide Tryz.prog W .any base 28 v) (h : DataW.trod enc Tryz.prog W 0 (fun _ => true) true fuel 28 [v] = some x) :
    ∃ ss : List ByteArray, Sl W 1 v ss.length (scs ss) ∧ ∀ s ∈ ss, s.size ≤ maxLen := by
  rcases open_strs Tryz.underlying28 Tryz.underlying9 cells9 h with ⟨hcs, _⟩ | ⟨a, len, cap, m, Sx, hcs, _, hl, hm, hmm, _, hcell⟩
  · obtain rfl : v = .slice none 0 0 := by simpa using hcs
    exact ⟨[], ⟨rfl, none, 0, rfl, Nat.le_refl _, Nat.zero_le _, Or.inl rfl⟩, by simp⟩
  · obtain rfl : v = .slice (some a) len cap := by simpa using hcs
    simp only [if_true] at hmm
    subst hmm
    refine ⟨(List.range len).map Sx, ⟨by simp [scs], some a, m, by simp, by simpa using hl, hm, ?_⟩, ?_⟩
    · right
      have hsp : a.spot = none := by
        simp only [Cell.okWide, Tryz.underlying28, Cell.ok] at ho
        exact ho.2.2.2.1
      obtain ⟨b, off, sp⟩ := a
      simp at hsp
      subst hsp
      refine ⟨b, off, rfl, fun j u hu => ?_⟩
      have hj : j < len := by
        have := (List.getElem?_eq_some_iff.1 hu).1
        simpa [scs] using this
      have := (hcell j (by omega)).1
      rw [add_none] at this
      rw [this]
      simpa [scs, hj] using hu
    · intro s hs
      obtain ⟨i, hi, rfl⟩ := List.mem_map.1 hs
      exact (hcell i (by have := List.mem_range.1 hi; omega)).2

theorem cells3 : Tryz.prog.cellsOf 3 = 1 := by kernel_rfl
theorem cells23 : Tryz.prog.cellsOf 28 = 1 := by kernel_rfl
theorem cells24 : Tryz.prog.cellsOf 29 = 2 := by kernel_rfl
instance : Inhabited LateM := ⟨⟨0, 0, ⟨#[]⟩⟩⟩

end
end Go.Proofs.YtfcfgdpelbljnaaGreatDoor
