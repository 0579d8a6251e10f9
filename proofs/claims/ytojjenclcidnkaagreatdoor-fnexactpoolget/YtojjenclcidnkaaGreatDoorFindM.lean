/-
  Where a set of a name is: strings.Compare's sign, the search's answer, and a block got from a store.
-/
import Derived.Test.YtojjenclcidnkaaGreatDoorPoolOkC
import Derived.Test.YtojjenclcidnkaaGreatDoorRoots
import Derived.Test.YtojjenclcidnkaaGreatDoorBlkRS
import Derived.Lib.Bytealg
set_option maxRecDepth 100000
namespace Go.Proofs.YtojjenclcidnkaaGreatDoor
open Go.ChangeShapes Go.WideShapes Go.ChangeAt Go.RowKit Go.Proofs.Palim

theorem cmpB_sign : ∀ (a b : List UInt8), (Lib.compareBytes a b < 0 ↔ Op.bytesLess a b = true) ∧ (Lib.compareBytes a b = 0 ↔ a = b)
  | [], [] => by simp [Lib.compareBytes, Op.bytesLess]
  | [], _ :: _ => by simp [Lib.compareBytes, Op.bytesLess]
  | _ :: _, [] => by simp [Lib.compareBytes, Op.bytesLess]
  | x :: a, y :: b => by
    obtain ⟨h1, h2⟩ := cmpB_sign a b
    unfold Lib.compareBytes Op.bytesLess
    by_cases hlt : x < y
    · have hne : x ≠ y := fun e => by subst e; exact absurd hlt (UInt8.lt_irrefl _)
      simp [hlt, hne]
    · by_cases hgt : y < x
      · have hne : x ≠ y := fun e => by subst e; exact absurd hgt (UInt8.lt_irrefl _)
        simp [hlt, hgt, hne]
      · have he : x = y := UInt8.le_antisymm (UInt8.not_lt.1 hgt) (UInt8.not_lt.1 hlt)
        subst he
        simp [h1, h2]
/-- The comparison of two texts. -/
def cmpT (a b : ByteArray) : Int := Lib.compareBytes a.data.toList b.data.toList
theorem cmpT_lt (a b : ByteArray) : cmpT a b < 0 ↔ Lt a b := by
  unfold cmpT Lt
  rw [ByteArray.toList_eq, ByteArray.toList_eq]
  exact (cmpB_sign _ _).1
theorem cmpT_eq (a b : ByteArray) : cmpT a b = 0 ↔ a = b := by
  unfold cmpT
  rw [(cmpB_sign _ _).2]
  exact ⟨fun h => ByteArray.ext (Array.ext' h), fun h => by rw [h]⟩
theorem namesM_len (ls : List CSetM) : (namesM ls).length = ls.length := List.length_map _
theorem namesM_name (ls : List CSetM) (k : Nat) (h : k < ls.length) : ∃ h', ((namesM ls)[k]'h').name = ls[k].name := ⟨by rw [namesM_len]; exact h, by simp [namesM, nameM]⟩
/-- Where the search ends. -/
theorem find_end {ls : List CSetM} {s : ByteArray} {k : Nat} (hk : k ≤ ls.length) (h1 : ∀ (j : Nat) (h : j < ls.length), j < k → cmpT ls[j].name s < 0) (h2 : ∀ (j : Nat) (h : j < ls.length), k ≤ j → ¬ cmpT ls[j].name s < 0) : atM (namesM ls) s = k := by
  refine atM_eq (by rw [namesM_len]; exact hk) (fun j h hj => ?_) (fun h => ?_)
  · rw [namesM_len] at h
    obtain ⟨_, e⟩ := namesM_name ls j h
    rw [e]
    exact (cmpT_lt _ _).1 (h1 j h hj)
  · rw [namesM_len] at h
    obtain ⟨_, e⟩ := namesM_name ls k h
    rw [e]
    exact fun h3 => h2 k h (Nat.le_refl _) ((cmpT_lt _ _).2 h3)
theorem there_some {ls : List CSetM} {s : ByteArray} {k : Nat} (hk : atM (namesM ls) s = k) (h : k < ls.length) : thereM (namesM ls) s = decide (cmpT ls[k].name s = 0) := by
  unfold thereM
  rw [hk]
  obtain ⟨h', e⟩ := namesM_name ls k h
  rw [List.getElem?_eq_getElem h']
  simp only [e]
  exact decide_eq_decide.2 (cmpT_eq _ _).symm
theorem there_none {ls : List CSetM} {s : ByteArray} {k : Nat} (hk : atM (namesM ls) s = k) (h : ¬ k < ls.length) : thereM (namesM ls) s = false := by
  unfold thereM
  rw [hk, List.getElem?_eq_none (by rw [namesM_len]; omega)]
theorem asc_at {ls : List CSetM} (h : Asc (namesM ls)) {i j : Nat} (hj : j < ls.length) (hij : i < j) : Lt (ls[i]'(by omega)).name ls[j].name := by
  have h1 := List.pairwise_iff_getElem.1 h i j (by rw [namesM_len]; omega) (by rw [namesM_len]; omega) hij
  simpa [namesM, nameM] using h1
/-- A name that stands behind one that is not ahead of s is not ahead of s. -/
theorem asc_mono {ls : List CSetM} {s : ByteArray} (h : Asc (namesM ls)) {i j : Nat} (hj : j < ls.length) (hij : i ≤ j) (hl : cmpT ls[j].name s < 0) : cmpT (ls[i]'(by omega)).name s < 0 := by
  rcases Nat.lt_or_eq_of_le hij with h1 | h1
  · exact (cmpT_lt _ _).2 ((asc_at h hj h1).trans ((cmpT_lt _ _).1 hl))
  · subst h1; exact hl

/-- The pointer of block i of set k. -/
def ptrAt (ls : List CSetM) (k : Nat) (i : Int) : PtrM := match ls[k]? with
  | some x => (x.map[i.toNat]?).getD ⟨0, 0, 0⟩
  | none => ⟨0, 0, 0⟩
/-- A block got: the text and the code. -/
noncomputable def getM (p : PoolM) (s : ByteArray) (i : Int) : ByteArray × Int :=
  if poolOkB p = false ∨ i < 0 ∨ 8 ≤ i then (⟨#[]⟩, 5)
  else if p.up = false then (⟨#[]⟩, 9)
  else if thereM (namesM p.core.sets) s = false then (⟨#[]⟩, 1)
  else if blkCode p.disk (ptrAt p.core.sets (atM (namesM p.core.sets) s) i) = 2 then (⟨#[]⟩, 8)
  else (blkText p.disk (ptrAt p.core.sets (atM (namesM p.core.sets) s) i), 0)
theorem poolOk_asc {p : PoolM} (h : poolOkB p = true) : Asc (namesM p.core.sets) ∧ p.core.sets.length ≤ 6 := by
  unfold poolOkB at h
  simp only [Bool.and_eq_true, decide_eq_true_eq] at h
  obtain ⟨_, _, _, _, _, _, _, hb, _⟩ := h.2
  exact ⟨hb.2.2.1, by have := hb.1; rwa [namesM_len] at this⟩
theorem there_lt' {ls : List SetM} {s : ByteArray} (h : thereM ls s = true) : atM ls s < ls.length := by
  unfold thereM at h
  split at h
  · rename_i x hx
    exact (List.getElem?_eq_some_iff.1 hx).1
  · cases h
theorem there_at {ls : List CSetM} {s : ByteArray} (h : thereM (namesM ls) s = true) : atM (namesM ls) s < ls.length := by
  have h1 := there_lt' h
  rwa [namesM_len] at h1
end Go.Proofs.YtojjenclcidnkaaGreatDoor
