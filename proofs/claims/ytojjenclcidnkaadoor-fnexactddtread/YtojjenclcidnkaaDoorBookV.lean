/-
  Books: as plain data, read in memory, and the laws' own helpers on them.
-/
import Derived.Test.YtojjenclcidnkaaDoorSetS2
import Derived.Test.YtojjenclcidnkaaDoorBookName
set_option maxRecDepth 100000
namespace Go.Proofs.YtojjenclcidnkaaDoor
open Go.ChangeShapes Go.WideShapes Go.ChangeAt Go.RowKit Go.Proofs.Palim

theorem list_eq_ofB {α : Type} {a b : List α} (hl : a.length = b.length) (h : ∀ (j : Nat) (h0 : j < a.length) (h1 : j < b.length), a[j] = b[j]) : a = b := List.ext_getElem hl fun j h0 h1 => h j h0 h1
theorem ret_boolB {a b : Bool} (h : a = b) : Ending.returned (.bool a) = Ending.returned (.bool b) := by rw [h]

/-- A book reads as these sets, and its block is there. -/
structure BookR (w : World) (v : Value) (ls : List SetM) : Prop where
  r : Sl w 11 v ls.length (kcs ls)
  l : ∀ b, v.ownBlock = some b → b < w.heap.size
theorem BookR.below {w w' : World} {v : Value} {ls : List SetM} {B : Nat} (h : BookR w v ls) (hb : Below B w w') (hB : w.heap.size ≤ B) : BookR w' v ls :=
  ⟨h.r.below hb (fun b e => Nat.lt_of_lt_of_le (h.l b e) hB), fun b e => Nat.lt_of_lt_of_le (h.l b e) hb.size⟩
theorem BookR.form {w : World} {v : Value} {ls : List SetM} (h : BookR w v ls) : ∃ A c, v = .slice A ls.length c := by
  obtain ⟨_, A, c, rfl, _⟩ := h.r
  exact ⟨A, c, rfl⟩
/-- A book that is not too long, and whose texts are not. -/
structure BookShort (ls : List SetM) : Prop where
  n : ls.length ≤ 1048576
  z : ∀ x ∈ ls, x.name.size ≤ 1048576 ∧ x.frm.size ≤ 1048576 ∧ ∀ s ∈ x.bs, s.size ≤ 1048576
theorem Below.new1 {w : World} (o : Obj) : Below w.heap.size w (w.alloc o) := (Below.refl _ _).alloc (Nat.le_refl _) _

theorem tot_le8 {ss : List ByteArray} {s : ByteArray} (h : s ∈ ss) : s.size ≤ tot ss := by
  induction ss with
  | nil => cases h
  | cons a ss ih =>
    rcases List.mem_cons.1 h with rfl | h
    · simp [tot]
    · have := ih h; simp [tot] at this ⊢; omega
theorem kszs_le {ls : List SetM} {x : SetM} (h : x ∈ ls) : ksz x ≤ kszs ls := by
  induction ls with
  | nil => cases h
  | cons a ss ih =>
    rcases List.mem_cons.1 h with rfl | h
    · simp [kszs]
    · have := ih h; simp [kszs] at this ⊢; omega
theorem book_short {ls : List SetM} (h : ls.length + kszs ls ≤ 1048576) : BookShort ls := by
  refine ⟨by omega, fun x hx => ?_⟩
  have h1 := kszs_le hx
  unfold ksz at h1
  refine ⟨by omega, by omega, fun s hs => ?_⟩
  have := tot_le8 hs
  omega
end Go.Proofs.YtojjenclcidnkaaDoor
