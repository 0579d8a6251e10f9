/-
  The document's cutter of texts at points.
-/
import Derived.Test.YtfcfgdpelbljnaaGreatDoorPtrNum
import Derived.Test.YtfcfgdpelbljnaaGreatDoorBase
import Derived.Test.YtfcfgdpelbljnaaGreatDoorDisks
import Derived.Deep.AppendLies
set_option maxRecDepth 100000
namespace Go.Proofs.YtfcfgdpelbljnaaGreatDoor
open Go.ChangeShapes Go.WideShapes Go.ChangeAt Go.RowKit Go.Proofs.Palim

theorem piece_list (s : ByteArray) (f k : Nat) (_ : k ≤ s.size) : (s.extract f k).data.toList = (s.data.toList.drop f).take (k - f) := by
  rw [ByteArray.data_extract, Array.toList_extract]

/-- The pieces as they are found: those before f are out, none of the bytes from f to k is a point. -/
structure Cutting (l : List UInt8) (f k : Nat) (ps : List ByteArray) : Prop where
  no : ∀ j, f ≤ j → j < k → ∀ x, l[j]? = some x → x ≠ 46
  join : ps.map (fun b => b.data.toList) ++ pieces (l.drop f) = pieces l
theorem Cutting.piece {l : List UInt8} {f k : Nat} {ps : List ByteArray} (h : Cutting l f k ps) (hf : f ≤ k) : (46 : UInt8) ∉ (l.drop f).take (k - f) := by
  intro hm
  obtain ⟨j, hj⟩ := List.mem_iff_getElem?.1 hm
  rw [List.getElem?_take] at hj
  split at hj
  · rw [List.getElem?_drop] at hj
    exact h.no (f + j) (by omega) (by omega) 46 hj rfl
  · cases hj
/-- A point at k: one more piece. -/
theorem Cutting.hit {l : List UInt8} {f k : Nat} {ps : List ByteArray} {b : ByteArray} (h : Cutting l f k ps) (hf : f ≤ k) (hk : l[k]? = some 46) (hb : b.data.toList = (l.drop f).take (k - f)) : Cutting l (k + 1) (k + 1) (ps ++ [b]) := by
  refine ⟨fun j h1 h2 => by omega, ?_⟩
  have hkl := (List.getElem?_eq_some_iff.1 hk).1
  have e : l.drop f = (l.drop f).take (k - f) ++ 46 :: l.drop (k + 1) := by
    have h1 : (l.drop f).drop (k - f) = l.drop k := by rw [List.drop_drop]; congr 1; omega
    have h2 : l.drop k = 46 :: l.drop (k + 1) := by
      rw [List.drop_eq_getElem_cons hkl]
      have := (List.getElem?_eq_some_iff.1 hk).2
      rw [this]
    conv => lhs; rw [← List.take_append_drop (k - f) (l.drop f), h1, h2]
  have h3 := h.join
  rw [e, pieces_cut _ _ (h.piece hf)] at h3
  rw [← h3]
  simp [hb]
theorem Cutting.miss {l : List UInt8} {f k : Nat} {ps : List ByteArray} (h : Cutting l f k ps) (hk : l[k]? ≠ some 46) : Cutting l f (k + 1) ps :=
  ⟨fun j h1 h2 x hx => by
    rcases Nat.lt_succ_iff_lt_or_eq.1 h2 with h3 | rfl
    · exact h.no j h1 h3 x hx
    · rintro rfl; exact hk hx, h.join⟩
theorem Cutting.last {l : List UInt8} {f : Nat} {ps : List ByteArray} {b : ByteArray} (h : Cutting l f l.length ps) (hf : f ≤ l.length) (hb : b.data.toList = (l.drop f).take (l.length - f)) : (ps ++ [b]).map (fun b => b.data.toList) = pieces l := by
  have h3 := h.join
  have e : (l.drop f).take (l.length - f) = l.drop f := List.take_of_length_le (by simp)
  have hp := h.piece hf
  rw [e] at hp hb
  rw [pieces_one _ hp] at h3
  rw [← h3]
  simp [hb]

def CutPost (s : ByteArray) (w : World) (e : Ending) (w' : World) : Prop :=
  ∃ (v : Value) (ps : List ByteArray), e = .returned v ∧ ps.map (fun b => b.data.toList) = pieces s.data.toList ∧ Sl w' 1 v ps.length (scs ps) ∧ Low w'.heap.size v ∧ Below w.heap.size w w' ∧ ps.length ≤ s.size + 1 ∧ ∀ b ∈ ps, b.size ≤ s.size

end Go.Proofs.YtfcfgdpelbljnaaGreatDoor
