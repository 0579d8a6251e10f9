/-
  What is read of a disk is short.
-/
import Derived.Test.YtgjlhokakcdpbaaGreatDoorDisks
set_option maxRecDepth 100000
namespace Go.Proofs.YtgjlhokakcdpbaaGreatDoor
open Go.ChangeShapes Go.WideShapes Go.ChangeAt Go.RowKit Go.Proofs.Palim

theorem lastOf_in {side at_ : Int} {ls : List LateM} {t : ByteArray} (h : lastOf side at_ ls = some t) : ∃ x ∈ ls, x.text = t := by
  induction ls with
  | nil => simp [lastOf] at h
  | cons x ls ih =>
    simp only [lastOf] at h
    cases hl : lastOf side at_ ls with
    | some u =>
      rw [hl] at h
      simp only [Option.some.injEq] at h
      subst h
      obtain ⟨y, hy, he⟩ := ih hl
      exact ⟨y, by simp [hy], he⟩
    | none =>
      rw [hl] at h
      simp only at h
      split at h
      · exact ⟨x, by simp, Option.some.inj h⟩
      · cases h
theorem readOut_le (d : DiskM) (side at_ : Int) : (readOut d side at_).size ≤ 420 := by
  unfold readOut
  split
  · rename_i h
    obtain ⟨_, _, _, _, h0, h1, hl⟩ := h.1
    unfold secM
    cases hx : lastOf side at_ d.late with
    | some t =>
      obtain ⟨x, hm, rfl⟩ := lastOf_in hx
      exact (hl x hm).2.2.2.2
    | none =>
      simp only [Option.getD_none]
      rw [List.getD_eq_getElem?_getD]
      cases hy : (sideOf d side)[at_.toNat]? with
      | none => exact Nat.zero_le _
      | some s =>
        have hm := List.mem_of_getElem? hy
        simp only [Option.getD_some]
        unfold sideOf at hm
        split at hm
        · exact h0 s hm
        · exact h1 s hm
  · exact Nat.zero_le _
end Go.Proofs.YtgjlhokakcdpbaaGreatDoor
