/-
  Short disks stay short: a flush, a turned byte.
-/
import Derived.Test.YtobjgdnmlibofaaGreatData
import Derived.Test.YtobjgdnmlibofaaGreatDiskFlush
import Derived.Test.YtobjgdnmlibofaaGreatDiskRot
import Derived.Test.YtobjgdnmlibofaaGreatImPut
set_option maxRecDepth 100000
namespace Go.Proofs.YtobjgdnmlibofaaGreat
open Go.ChangeShapes Go.WideShapes Go.ChangeAt Go.RowKit Go.Proofs.Palim

theorem set_all {P : ByteArray → Prop} {ss : List ByteArray} (h : ∀ s ∈ ss, P s) {t : ByteArray} (ht : P t) (k : Nat) : ∀ s ∈ ss.set k t, P s := fun s hs => by
  rcases List.mem_or_eq_of_mem_set hs with h' | h'
  · exact h s h'
  · exact h' ▸ ht
theorem short_put {d : DiskM} (h : DiskShort d) (side at_ : Int) {t : ByteArray} (ht : t.size ≤ 1048576) : DiskShort (putM d side at_ t) := by
  have hl := putM_len d side at_ t
  refine ⟨by rw [hl.1]; exact h.n0, by rw [hl.2.1]; exact h.n1, h.nl, ?_, ?_, h.zl⟩
  · unfold putM layM
    split
    · exact set_all h.z0 ht _
    · exact h.z0
  · unfold putM layM
    split
    · exact h.z1
    · exact set_all h.z1 ht _
theorem sect_short {d : DiskM} (h : DiskShort d) (side at_ : Int) : (sect d side at_).size ≤ 1048576 := by
  have hm : (sect d side at_) = ⟨#[]⟩ ∨ (sect d side at_) ∈ d.s0 ∨ (sect d side at_) ∈ d.s1 := by
    unfold sect sideOf
    split
    · rcases Nat.lt_or_ge at_.toNat d.s0.length with h | h
      · right; left; simp [List.getD, List.getElem?_eq_getElem h]
      · left; simp [List.getD, List.getElem?_eq_none h]
    · rcases Nat.lt_or_ge at_.toNat d.s1.length with h | h
      · right; right; simp [List.getD, List.getElem?_eq_getElem h]
      · left; simp [List.getD, List.getElem?_eq_none h]
  rcases hm with h' | h' | h'
  · rw [h']; exact Nat.zero_le _
  · exact h.z0 _ h'
  · exact h.z1 _ h'
theorem short_rot {d : DiskM} {side at_ k mask : Int} (h : DiskShort d) : DiskShort (rotM d side at_ k mask) := by
  unfold rotM
  split
  · split
    · exact short_put h _ _ (by rw [rotB_size]; exact sect_short h _ _)
    · exact h
  · exact short_no

theorem layAll_all {P : ByteArray → Prop} (ls : List LateM) (hl : ∀ l ∈ ls, P l.text) : ∀ p : List ByteArray × List ByteArray, (∀ s ∈ p.1, P s) → (∀ s ∈ p.2, P s) → (∀ s ∈ (layAll p ls).1, P s) ∧ ∀ s ∈ (layAll p ls).2, P s := by
  induction ls with
  | nil => intro p h1 h2; exact ⟨h1, h2⟩
  | cons l ls ih =>
    intro p h1 h2
    have hx := hl l (by simp)
    refine ih (fun l hl' => hl l (by simp [hl'])) (layM p l.side l.at_.toNat l.text) ?_ ?_
    · intro s hs
      unfold layM at hs
      split at hs
      · rcases List.mem_or_eq_of_mem_set hs with h | rfl
        · exact h1 s h
        · exact hx
      · exact h1 s hs
    · intro s hs
      unfold layM at hs
      split at hs
      · exact h2 s hs
      · rcases List.mem_or_eq_of_mem_set hs with h | rfl
        · exact h2 s h
        · exact hx
theorem short_flush {d : DiskM} (h : DiskShort d) : DiskShort (flushM d) := by
  unfold flushM
  split
  · have hl := layAll_len d.late (d.s0, d.s1)
    have ha := layAll_all (P := fun s => s.size ≤ 1048576) d.late h.zl (d.s0, d.s1) h.z0 h.z1
    exact ⟨by rw [hl.1]; exact h.n0, by rw [hl.2]; exact h.n1, Nat.zero_le _, ha.1, ha.2, by simp⟩
  · exact short_no

end Go.Proofs.YtobjgdnmlibofaaGreat
