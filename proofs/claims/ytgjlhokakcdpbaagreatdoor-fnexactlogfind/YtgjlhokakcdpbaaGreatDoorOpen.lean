/-
  Opening a sealed text, by the document: what is behind the first colon, if that is sealed as the whole.
-/
import Derived.Test.YtgjlhokakcdpbaaGreatDoorBase
import Derived.Test.YtgjlhokakcdpbaaGreatDoorUnhex
import Derived.WalkKit
import Derived.ProofKit
import Derived.Lib.Hide
import Derived.Lib.IndexBytes
import Derived.Lib.IndexLaws
import Derived.Lib.IndexMore
import Derived.WalkSpells
set_option maxRecDepth 100000
namespace Go.Proofs.YtgjlhokakcdpbaaGreatDoor
open Go.ChangeShapes Go.WideShapes Go.ChangeAt Go.RowKit Go.Proofs.Palim

/-- What is behind byte k. -/
def tailB (s : ByteArray) (k : Nat) : ByteArray := ⟨(s.data.toList.drop (k + 1)).toArray⟩
theorem tailB_size (s : ByteArray) (k : Nat) : (tailB s k).size ≤ s.size := by
  show (s.data.toList.drop (k + 1)).toArray.size ≤ s.data.size
  rw [List.size_toArray, List.length_drop, Array.length_toList]; omega
theorem tailB_extract (s : ByteArray) (k : Nat) : s.extract (k + 1) s.size = tailB s k := by
  apply ByteArray.ext
  apply Array.ext'
  exact Lib.extract_to_end s (k + 1)
/-- The text that was sealed as s. -/
def openB (s : ByteArray) : Option ByteArray :=
  if Lib.indexByte s.data.toList 58 = -1 then none
  else if sealB (tailB s (Lib.indexByte s.data.toList 58).toNat) = s then some (tailB s (Lib.indexByte s.data.toList 58).toNat) else none
def OpenPost (s : ByteArray) (w : World) (e : Ending) (w' : World) : Prop :=
  Below w.heap.size w w' ∧ ((∃ t, openB s = some t ∧ e = .returned (.tuple #[.string t, .bool true])) ∨ (openB s = none ∧ e = .returned (.tuple #[.string ⟨#[]⟩, .bool false])))

/-- Where the first colon is, if there is one. -/
theorem colon_cases (s : ByteArray) : (Lib.indexByte s.data.toList 58 = -1 ∧ openB s = none ∧ ∀ j (h : j < s.size), s[j] ≠ 58) ∨
    ∃ k : Nat, Lib.indexByte s.data.toList 58 = (k : Int) ∧ ∃ h : k < s.size, s[k] = 58 ∧ (∀ j (h : j < s.size), j < k → s[j] ≠ 58) ∧ openB s = if sealB (tailB s k) = s then some (tailB s k) else none := by
  have hg := Lib.indexByte_ge s.data.toList 58
  by_cases h1 : Lib.indexByte s.data.toList 58 = -1
  · left
    refine ⟨h1, by unfold openB; rw [if_pos h1], fun j h e => ?_⟩
    exact Lib.indexByte_none h1 j (by rw [List.getElem?_eq_getElem (by simpa using h)]; exact congrArg some e)
  · right
    obtain ⟨k, hk⟩ : ∃ k : Nat, Lib.indexByte s.data.toList 58 = (k : Int) := ⟨(Lib.indexByte s.data.toList 58).toNat, by omega⟩
    obtain ⟨ha, hb⟩ := Lib.indexByte_some hk
    have hlt : k < s.size := by
      have := (List.getElem?_eq_some_iff.1 ha).1
      simpa using this
    refine ⟨k, hk, hlt, ?_, fun j h hj e => ?_, ?_⟩
    · rw [List.getElem?_eq_getElem (by simpa using hlt)] at ha
      exact Option.some.inj ha
    · exact hb j hj (by rw [List.getElem?_eq_getElem (by simpa using h)]; exact congrArg some e)
    · unfold openB
      rw [if_neg h1, hk]
      rfl

theorem str_ne {a b : ByteArray} (h : ¬ a = b) : (a.toList == b.toList) = false := by
  rw [beq_eq_false_iff_ne]
  intro e
  rw [Lib.toList_data, Lib.toList_data] at e
  exact h (ByteArray.ext (Array.ext' e))

set_option maxHeartbeats 400000 in
theorem specOpen_any (s : ByteArray) (w : World) (hs : s.size ≤ 1048576) :
    Calls Tryz.prog 47 #[.string s] w (OpenPost s w) := by
  have hm : s.size ≤ maxLen := by unfold maxLen; omega
  rcases colon_cases s with ⟨-, ho, hn⟩ | ⟨k, -, hk, hc, hn, ho⟩
  · have HO := Lib.hid ho
    have HN := Lib.hid hn
    clear ho hn
    go_enter Tryz.func47, Tryz.ntmps47
    go_wp2_with fail
    refine (l19Find_miss s 58 _ hm HN.out).mono ?_
    rintro e w' ⟨rfl, rfl⟩
    go_wp2
    go_ret2
    exact ⟨Below.refl _ _, Or.inr ⟨HO.out, rfl⟩⟩
  · have HO := Lib.hid ho
    have HN := Lib.hid hn
    have HC := Lib.hid hc
    clear ho hn hc
    have hx := tailB_extract s k
    have htz := tailB_size s k
    have htm : (tailB s k).size ≤ maxLen := Nat.le_trans htz hm
    have HTM := Lib.hid htm
    clear htm htz
    go_enter Tryz.func47, Tryz.ntmps47
    go_wp2_with fail
    refine (l19Find_hit s 58 k _ hm hk HC.out HN.out).mono ?_
    rintro e w' ⟨rfl, rfl⟩
    go_wp2_with fail
    refine (specSeal_any _ _ HTM.out).mono ?_
    rintro e w1 ⟨rfl, hb⟩
    by_cases he : sealB (tailB s k) = s
    · have HO2 := Lib.hid (show openB s = some (tailB s k) from by rw [HO.out, if_pos he])
      go_wp2
      go_ret2
      exact ⟨hb, Or.inl ⟨_, HO2.out, rfl⟩⟩
    · have hq := str_ne he
      have HO2 := Lib.hid (show openB s = none from by rw [HO.out, if_neg he])
      clear he
      go_wp2
      go_ret2
      exact ⟨hb, Or.inr ⟨HO2.out, rfl⟩⟩
end Go.Proofs.YtgjlhokakcdpbaaGreatDoor
