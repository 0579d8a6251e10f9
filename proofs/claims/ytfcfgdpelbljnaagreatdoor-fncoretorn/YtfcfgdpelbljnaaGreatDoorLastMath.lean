/-
  Two writes of one sector, one behind the other: what is read then, and what a power failure that keeps all of them, or all but the last, leaves.
-/
import Derived.Test.YtfcfgdpelbljnaaGreatDoorTorn
import Derived.Test.YtfcfgdpelbljnaaGreatDoorDisks
set_option maxRecDepth 100000
namespace Go.Proofs.YtfcfgdpelbljnaaGreatDoor
open Go.Proofs.Palim

theorem pairs_ones : ∀ (ls : List LateM) (n : Nat), ls.length ≤ n → pairs ls (List.replicate n 1) = ls.map fun l => (l, 1)
  | [], _, _ => rfl
  | l :: ls, n, h => by
    obtain ⟨m, rfl⟩ : ∃ m, n = m + 1 := ⟨n - 1, by simp at h; omega⟩
    rw [List.replicate_succ]
    simp only [pairs, List.map_cons]
    rw [pairs_ones ls m (by simpa using h)]
theorem pairs_short : ∀ (ls : List LateM) (x : LateM), pairs (ls ++ [x]) (List.replicate ls.length 1) = (ls.map fun l => (l, (1 : Int))) ++ [(x, 0)]
  | [], _ => rfl
  | l :: ls, x => by
    rw [List.length_cons, List.replicate_succ]
    simp only [List.cons_append, pairs, List.map_cons]
    rw [pairs_short ls x]
theorem fallAll_ones (p : List ByteArray × List ByteArray) (ls : List LateM) : fallAll p (ls.map fun l => (l, 1)) = layAll p ls := by
  unfold fallAll layAll
  rw [List.foldl_map]
  congr 1
theorem sectOf_lay {p : List ByteArray × List ByteArray} {side : Int} {k : Nat} {t : ByteArray} (h : (side = 0 ∧ k < p.1.length) ∨ (side = 1 ∧ k < p.2.length)) : sectOf (layM p side k t) side k = t := by
  unfold sectOf layM
  rcases h with ⟨rfl, h⟩ | ⟨rfl, h⟩
  · simp [List.getD, h]
  · simp [List.getD, h]

theorem canRead_of {d : DiskM} {side at_ : Int} {n : Nat} (hok : DiskOkM d) (h : There d.s0.length side at_ n) : CanRead d side at_ := ⟨hok, by unfold There at *; omega⟩
theorem ok_fall {d : DiskM} {fs : List Int} (h : DiskOkM d) : DiskOkM (fallM d fs) ∧ (fallM d fs).s0.length = d.s0.length := by
  have e : fallM d fs = _ := if_pos h
  have hl := fallAll_len (pairs d.late fs) (d.s0, d.s1)
  have ha := fallAll_all (B := 420) (pairs d.late fs) (pairs_text (fun l hl => (h.2.2.2.2.2.2 l hl).2.2.2.2) fs) (d.s0, d.s1) h.2.2.2.2.1 h.2.2.2.2.2.1
  rw [e]
  refine ⟨⟨?_, ?_, ?_, by simp, ha.1, ha.2, by simp⟩, hl.1⟩
  · rw [hl.1]; exact h.1
  · rw [hl.1]; exact h.2.1
  · rw [hl.1, hl.2]; exact h.2.2.1
theorem read_fall {d : DiskM} {fs : List Int} {side at_ : Int} {n : Nat} (h : DiskOkM d) (ht : There d.s0.length side at_ n) : readOut (fallM d fs) side at_ = sectOf (fallAll (d.s0, d.s1) (pairs d.late fs)) side at_.toNat := by
  have ho := ok_fall (fs := fs) h
  have hc : CanRead (fallM d fs) side at_ := canRead_of (n := n) ho.1 (by rw [ho.2]; exact ht)
  have e : fallM d fs = _ := if_pos h
  unfold readOut
  rw [if_pos hc]
  unfold secM
  rw [e]
  rfl

/-- The two writes. -/
structure Twice (d : DiskM) (side at_ : Int) (text other : ByteArray) : Prop where
  first : CanWrite d side at_ text
  second : CanWrite (writeM d side at_ text) side at_ other
theorem Twice.x {d : DiskM} {side at_ : Int} {text other : ByteArray} (h : Twice d side at_ text other) : writeM d side at_ text = ⟨d.s0, d.s1, d.late ++ [⟨side, at_, text⟩]⟩ := if_pos h.first
theorem Twice.y {d : DiskM} {side at_ : Int} {text other : ByteArray} (h : Twice d side at_ text other) : writeM (writeM d side at_ text) side at_ other = ⟨d.s0, d.s1, d.late ++ [⟨side, at_, text⟩] ++ [⟨side, at_, other⟩]⟩ := by
  have e : writeM (writeM d side at_ text) side at_ other = _ := if_pos h.second
  rw [e, h.x]
theorem Twice.ok {d : DiskM} {side at_ : Int} {text other : ByteArray} (h : Twice d side at_ text other) : DiskOkM (writeM (writeM d side at_ text) side at_ other) := by
  have h2 := h.second
  rw [h.x] at h2
  rw [h.y]
  obtain ⟨hk, ht, hn⟩ := h2
  refine ⟨hk.1, hk.2.1, hk.2.2.1, ?_, hk.2.2.2.2.1, hk.2.2.2.2.2.1, ?_⟩
  · have h4 := hk.2.2.2.1
    simp only [List.length_append, List.length_singleton] at h4 hn ⊢
    omega
  · intro l hl
    rcases List.mem_append.1 hl with h' | h'
    · exact hk.2.2.2.2.2.2 l h'
    · obtain rfl := List.mem_singleton.1 h'
      exact ht
theorem Twice.there {d : DiskM} {side at_ : Int} {text other : ByteArray} (h : Twice d side at_ text other) : There (writeM (writeM d side at_ text) side at_ other).s0.length side at_ text.size := by
  rw [h.y]; exact h.first.2.1
theorem Twice.sector {d : DiskM} {side at_ : Int} {text other : ByteArray} (h : Twice d side at_ text other) {p : List ByteArray × List ByteArray} (h0 : p.1.length = d.s0.length) (h1 : p.2.length = d.s1.length) : (side = 0 ∧ at_.toNat < p.1.length) ∨ (side = 1 ∧ at_.toNat < p.2.length) := by
  have ht := h.first.2.1
  have hn := h.first.1.2.2.1
  unfold There at ht
  omega
/-- The last write is read. -/
theorem Twice.read {d : DiskM} {side at_ : Int} {text other : ByteArray} (h : Twice d side at_ text other) : readOut (writeM (writeM d side at_ text) side at_ other) side at_ = other := by
  unfold readOut
  rw [if_pos (canRead_of h.ok h.there)]
  unfold secM
  rw [h.y]
  simp only
  rw [lastOf_snoc, if_pos ⟨rfl, rfl⟩]
  rfl
/-- All are kept: the last one stays. -/
theorem Twice.kept {d : DiskM} {side at_ : Int} {text other : ByteArray} (h : Twice d side at_ text other) (n : Nat) (hn : n = (writeM (writeM d side at_ text) side at_ other).late.length) : readOut (fallM (writeM (writeM d side at_ text) side at_ other) (List.replicate n 1)) side at_ = other := by
  rw [read_fall h.ok h.there]
  rw [h.y] at hn ⊢
  simp only at hn ⊢
  rw [pairs_ones _ _ (by omega), fallAll_ones, layAll_snoc]
  refine sectOf_lay (h.sector ?_ ?_)
  · rw [(layAll_len _ _).1]
  · rw [(layAll_len _ _).2]
/-- All but the last are kept: the one before it stays. -/
theorem Twice.lost {d : DiskM} {side at_ : Int} {text other : ByteArray} (h : Twice d side at_ text other) (n : Nat) (hn : n + 1 = (writeM (writeM d side at_ text) side at_ other).late.length) : readOut (fallM (writeM (writeM d side at_ text) side at_ other) (List.replicate n 1)) side at_ = text := by
  rw [read_fall h.ok h.there]
  rw [h.y] at hn ⊢
  simp only at hn ⊢
  have hl : n = (d.late ++ [(⟨side, at_, text⟩ : LateM)]).length := by simp at hn ⊢; omega
  rw [hl, pairs_short, fallAll_snoc, fallAll_ones]
  unfold fallStep
  rw [if_neg (by simp), if_neg (by simp), layAll_snoc]
  refine sectOf_lay (h.sector ?_ ?_)
  · rw [(layAll_len _ _).1]
  · rw [(layAll_len _ _).2]
end Go.Proofs.YtfcfgdpelbljnaaGreatDoor
