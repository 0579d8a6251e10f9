/-
  A root's text: its lines, and how long they are.
-/
import Derived.Test.YthcfiobnnceomaaDoorCoreM
import Derived.Test.YthcfiobnnceomaaDoorCoreD
set_option maxRecDepth 100000
namespace Go.Proofs.YthcfiobnnceomaaDoor
open Go.ChangeShapes Go.WideShapes Go.ChangeAt Go.RowKit Go.Proofs.Palim

abbrev rootB : ByteArray := ⟨#[114, 111, 111, 116]⟩
abbrev nlB : ByteArray := ⟨#[10]⟩
abbrev spB : ByteArray := ⟨#[32]⟩
abbrev ptB : ByteArray := ⟨#[46]⟩
abbrev miB : ByteArray := ⟨#[45]⟩
def fromB (s : ByteArray) : ByteArray := if s.size = 0 then miB else s
def kindB (k : Int) : ByteArray := ⟨(Lib.itoa k).toArray⟩
def setLine (x : CSetM) : ByteArray := joinB [x.name, kindB x.kind, fromB x.frm, ptrText x.home] spB
def partLine (p : PtrM) : ByteArray := joinB [ptB, ptrText p] spB
def rootLines (ss : List CSetM) (ps : List PtrM) : List ByteArray := rootB :: (ss.map setLine ++ ps.map partLine)
def RootOk (ss : List CSetM) (ps : List PtrM) : Prop := (∀ x ∈ ss, SetOkC x) ∧ PartsM ps
noncomputable instance (ss : List CSetM) (ps : List PtrM) : Decidable (RootOk ss ps) := Classical.propDecidable _
noncomputable def rootText (ss : List CSetM) (ps : List PtrM) : ByteArray := if RootOk ss ps then joinB (rootLines ss ps) nlB else emB

theorem joinB_two (a b sep : ByteArray) : joinB [a, b] sep = a ++ sep ++ b := by
  have h := joinB_snoc [a] b sep
  rw [if_neg (by simp), joinB_one] at h
  exact h
theorem joinB_four (a b c d sep : ByteArray) : joinB [a, b, c, d] sep = a ++ sep ++ b ++ sep ++ c ++ sep ++ d := by
  have h3 := joinB_snoc [a, b] c sep
  rw [if_neg (by simp), joinB_two] at h3
  have h4 := joinB_snoc [a, b, c] d sep
  rw [if_neg (by simp)] at h4
  refine h4.trans ?_
  rw [show joinB [a, b, c] sep = a ++ sep ++ b ++ sep ++ c from h3]
theorem rootLines_set {ss : List CSetM} {k : Nat} (h : k < ss.length) : rootLines (ss.take (k + 1)) [] = rootLines (ss.take k) [] ++ [setLine ss[k]] := by
  unfold rootLines
  rw [List.take_succ_eq_append_getElem h, List.map_append]
  simp
theorem rootLines_part {ss : List CSetM} {ps : List PtrM} {k : Nat} (h : k < ps.length) : rootLines ss (ps.take (k + 1)) = rootLines ss (ps.take k) ++ [partLine ps[k]] := by
  unfold rootLines
  rw [List.take_succ_eq_append_getElem h, List.map_append]
  simp
theorem rootLines_ne (ss : List CSetM) (ps : List PtrM) : rootLines ss ps ≠ [] := by unfold rootLines; exact List.cons_ne_nil _ _
theorem rootLines_length (ss : List CSetM) (ps : List PtrM) : (rootLines ss ps).length = 1 + ss.length + ps.length := by unfold rootLines; simp; omega
/-- One more line of a set, as the document writes it. -/
theorem root_set {ss : List CSetM} {k : Nat} (h : k < ss.length) {o t1 t2 t3 t4 : ByteArray} (ho : o = joinB (rootLines (ss.take k) []) nlB) (h1 : ss[k].name = t1) (h2 : kindB ss[k].kind = t2) (h3 : fromB ss[k].frm = t3) (h4 : ptrText ss[k].home = t4) :
    o ++ nlB ++ t1 ++ spB ++ t2 ++ spB ++ t3 ++ spB ++ t4 = joinB (rootLines (ss.take (k + 1)) []) nlB := by
  rw [rootLines_set h, joinB_snoc, if_neg (rootLines_ne _ _), ← ho]
  unfold setLine
  rw [joinB_four, h1, h2, h3, h4]
  simp only [ByteArray.append_assoc]
theorem root_part {ss : List CSetM} {ps : List PtrM} {k : Nat} (h : k < ps.length) {o t : ByteArray} (ho : o = joinB (rootLines ss (ps.take k)) nlB) (h1 : ptrText ps[k] = t) :
    o ++ (⟨#[10, 46, 32]⟩ : ByteArray) ++ t = joinB (rootLines ss (ps.take (k + 1))) nlB := by
  rw [rootLines_part h, joinB_snoc, if_neg (rootLines_ne _ _), ← ho]
  unfold partLine
  rw [joinB_two, h1, show (⟨#[10, 46, 32]⟩ : ByteArray) = nlB ++ (ptB ++ spB) from rfl]
  simp only [ByteArray.append_assoc]
theorem kindB_bd (k : Int) (h : 1 ≤ k ∧ k ≤ 2) : (kindB k).size ≤ 21 := by
  have l := Lib.itoa_length_le k (by omega) (by omega)
  show (Lib.itoa k).toArray.size ≤ 21
  simpa using l
theorem fromB_bd (s : ByteArray) (h : s.size = 0 ∨ NameOk s) : (fromB s).size ≤ 6 := by
  unfold fromB
  split
  · show 1 ≤ 6; omega
  · next hn => exact (h.resolve_left hn).2.1
theorem setLine_bd {x : CSetM} (h : SetOkC x) : (setLine x).size ≤ 110 := by
  have h1 := h.1.2.1
  have h2 := kindB_bd _ h.2.2.1
  have h3 := fromB_bd _ h.2.1
  have h4 := ptrText_le x.home
  unfold setLine
  rw [joinB_four]
  simp only [ByteArray.size_append]
  have e : spB.size = 1 := rfl
  omega
theorem partLine_bd (p : PtrM) : (partLine p).size ≤ 110 := by
  have h4 := ptrText_le p
  unfold partLine
  rw [joinB_two]
  simp only [ByteArray.size_append]
  have e : spB.size = 1 := rfl
  have e2 : ptB.size = 1 := rfl
  omega
theorem root_bd {ss : List CSetM} {ps : List PtrM} (h : ∀ x ∈ ss, SetOkC x) : (joinB (rootLines ss ps) nlB).size ≤ (1 + ss.length + ps.length) * 111 := by
  have := joinB_bd (rootLines ss ps) nlB 110 (by
    intro x hx
    unfold rootLines at hx
    rcases List.mem_cons.1 hx with rfl | hx
    · show 4 ≤ 110; omega
    · rcases List.mem_append.1 hx with hx | hx
      · obtain ⟨y, hy, rfl⟩ := List.mem_map.1 hx
        exact setLine_bd (h y hy)
      · obtain ⟨y, hy, rfl⟩ := List.mem_map.1 hx
        exact partLine_bd y)
  rw [rootLines_length] at this
  exact this
end Go.Proofs.YthcfiobnnceomaaDoor
