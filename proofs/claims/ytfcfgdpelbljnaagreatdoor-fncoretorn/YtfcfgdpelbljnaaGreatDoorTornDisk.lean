/-
  A disk of two sectors: a write flushed, and another one over it torn.
-/
import Derived.Test.YtfcfgdpelbljnaaGreatDoorTorn
import Derived.Test.YtfcfgdpelbljnaaGreatDoorDisks
import Derived.Test.YtfcfgdpelbljnaaGreatDoorBase
set_option maxRecDepth 100000
namespace Go.Proofs.YtfcfgdpelbljnaaGreatDoor
open Go.ChangeShapes Go.WideShapes Go.ChangeAt Go.RowKit Go.Proofs.Palim

abbrev eB : ByteArray := ⟨#[]⟩
theorem open2 : openM 2 = ⟨[eB, eB], [eB, eB], []⟩ := rfl
theorem ok2 {a b : ByteArray} {ls : List LateM} (ha : a.size ≤ 420) (hb : b.size ≤ 420) (hl : ls.length ≤ 600) (ht : ∀ x ∈ ls, There 2 x.side x.at_ x.text.size) : DiskOkM ⟨[a, b], [eB, eB], ls⟩ := by
  refine ⟨by simp, by simp, rfl, hl, ?_, ?_, ht⟩
  · intro s hs
    simp only [List.mem_cons, List.not_mem_nil, or_false] at hs
    rcases hs with rfl | rfl <;> assumption
  · intro s hs
    simp only [List.mem_cons, List.not_mem_nil, or_false] at hs
    rcases hs with rfl | rfl <;> exact Nat.zero_le _
theorem there01 {s : ByteArray} (h : s.size ≤ 420) : There 2 0 1 s.size := by unfold There; omega
theorem write2 {a b s : ByteArray} (ha : a.size ≤ 420) (hb : b.size ≤ 420) (hs : s.size ≤ 420) : writeM ⟨[a, b], [eB, eB], []⟩ 0 1 s = ⟨[a, b], [eB, eB], [⟨0, 1, s⟩]⟩ := by
  unfold writeM
  rw [if_pos ⟨ok2 ha hb (by simp) (by simp), there01 hs, by simp⟩]
  rfl
theorem flush2 {a b s : ByteArray} (ha : a.size ≤ 420) (hb : b.size ≤ 420) (hs : s.size ≤ 420) : flushM ⟨[a, b], [eB, eB], [⟨0, 1, s⟩]⟩ = ⟨[a, s], [eB, eB], []⟩ := by
  unfold flushM
  rw [if_pos (ok2 ha hb (by simp) (by intro x hx; obtain rfl := List.mem_singleton.1 hx; exact there01 hs))]
  rfl
theorem fall2 {a b s : ByteArray} (ha : a.size ≤ 420) (hb : b.size ≤ 420) (hs : s.size ≤ 420) : fallM ⟨[a, b], [eB, eB], [⟨0, 1, s⟩]⟩ [2] = ⟨[a, tornM b s], [eB, eB], []⟩ := by
  unfold fallM
  rw [if_pos (ok2 ha hb (by simp) (by intro x hx; obtain rfl := List.mem_singleton.1 hx; exact there01 hs))]
  rfl
theorem short2 {a b : ByteArray} {ls : List LateM} (ha : a.size ≤ 420) (hb : b.size ≤ 420) (hl : ls.length ≤ 600) (ht : ∀ x ∈ ls, x.text.size ≤ 420) : DiskShort ⟨[a, b], [eB, eB], ls⟩ := by
  refine ⟨by simp, by simp, by simp only; omega, ?_, ?_, fun x hx => by have := ht x hx; omega⟩
  · intro s hs
    simp only [List.mem_cons, List.not_mem_nil, or_false] at hs
    rcases hs with rfl | rfl <;> omega
  · intro s hs
    simp only [List.mem_cons, List.not_mem_nil, or_false] at hs
    rcases hs with rfl | rfl <;> exact Nat.zero_le _
end Go.Proofs.YtfcfgdpelbljnaaGreatDoor
