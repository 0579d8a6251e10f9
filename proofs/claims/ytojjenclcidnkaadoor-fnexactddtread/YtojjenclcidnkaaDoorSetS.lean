/-
  The laws' own helpers on sets of a book and on their eight blocks.
-/
import Derived.Test.YtojjenclcidnkaaDoorStrS
import Derived.Test.YtojjenclcidnkaaDoorBox
import Derived.WalkKit
import Derived.ProofKit
import Derived.Lib.Hide
import Derived.WalkSpells
import Derived.WalkSmall
import Derived.Laws.Pointers
set_option maxRecDepth 100000
namespace Go.Proofs.YtojjenclcidnkaaDoor
open Go.ChangeShapes Go.WideShapes Go.ChangeAt Go.RowKit Go.Proofs.Palim

/-- A set, as plain data. -/
structure SetM where
  name : ByteArray
  kind : Int
  frm : ByteArray
  b0 : ByteArray
  b1 : ByteArray
  b2 : ByteArray
  b3 : ByteArray
  b4 : ByteArray
  b5 : ByteArray
  b6 : ByteArray
  b7 : ByteArray
def SetM.bs (x : SetM) : List ByteArray := [x.b0, x.b1, x.b2, x.b3, x.b4, x.b5, x.b6, x.b7]
theorem SetM.bs_length (x : SetM) : x.bs.length = 8 := rfl
/-- Its cells, and those of a list of sets. -/
def kc (x : SetM) : List Value := [.string x.name, .int .i64 x.kind, .string x.frm, .string x.b0, .string x.b1, .string x.b2, .string x.b3, .string x.b4, .string x.b5, .string x.b6, .string x.b7]
theorem kc_length (x : SetM) : (kc x).length = 11 := rfl
theorem kc_bs (x : SetM) (j : Nat) (h : j < 8) : (kc x)[3 + j]? = some (.string (x.bs[j]'(by rw [x.bs_length]; exact h))) := by
  match j, h with
  | 0, _ => rfl
  | 1, _ => rfl
  | 2, _ => rfl
  | 3, _ => rfl
  | 4, _ => rfl
  | 5, _ => rfl
  | 6, _ => rfl
  | 7, _ => rfl
def kcs (ls : List SetM) : List Value := ls.flatMap kc
theorem kcs_length (ls : List SetM) : (kcs ls).length = ls.length * 11 := by
  induction ls with
  | nil => rfl
  | cons x ls ih => simp [kcs, kc] at ih ⊢; omega
theorem kcs_snoc (a : List SetM) (x : SetM) : kcs (a ++ [x]) = kcs a ++ kc x := by simp [kcs]
theorem kcs_append (a b : List SetM) : kcs (a ++ b) = kcs a ++ kcs b := by simp [kcs]
theorem kcs_at (ls : List SetM) : ∀ (k : Nat) (h : k < ls.length) (j : Nat), j < 11 → (kcs ls)[k * 11 + j]? = (kc ls[k])[j]? := by
  induction ls with
  | nil => intro k h; simp at h
  | cons x ls ih =>
    intro k h j hj
    have e : kcs (x :: ls) = kc x ++ kcs ls := by simp [kcs]
    cases k with
    | zero => rw [e, List.getElem?_append_left (by rw [kc_length]; omega)]; simp
    | succ k =>
      have := ih k (by simpa using h) j hj
      rw [e, List.getElem?_append_right (by rw [kc_length]; omega), kc_length, show (k + 1) * 11 + j - 11 = k * 11 + j by omega, this]
      simp
/-- A set reads at these cells. -/
def SetAt (w : World) (b o : Nat) (x : SetM) : Prop := ∀ j u, (kc x)[j]? = some u → w.cell? ⟨b, o + j, none⟩ = some u
theorem SetAt.all {w : World} {b o : Nat} {x : SetM} (h : SetAt w b o x) :
    w.cell? ⟨b, o, none⟩ = some (.string x.name) ∧ w.cell? ⟨b, o + 1, none⟩ = some (.int .i64 x.kind) ∧ w.cell? ⟨b, o + 2, none⟩ = some (.string x.frm) ∧
    w.cell? ⟨b, o + 3, none⟩ = some (.string x.b0) ∧ w.cell? ⟨b, o + 4, none⟩ = some (.string x.b1) ∧ w.cell? ⟨b, o + 5, none⟩ = some (.string x.b2) ∧ w.cell? ⟨b, o + 6, none⟩ = some (.string x.b3) ∧
    w.cell? ⟨b, o + 7, none⟩ = some (.string x.b4) ∧ w.cell? ⟨b, o + 8, none⟩ = some (.string x.b5) ∧ w.cell? ⟨b, o + 9, none⟩ = some (.string x.b6) ∧ w.cell? ⟨b, o + 10, none⟩ = some (.string x.b7) :=
  ⟨h 0 _ rfl, h 1 _ rfl, h 2 _ rfl, h 3 _ rfl, h 4 _ rfl, h 5 _ rfl, h 6 _ rfl, h 7 _ rfl, h 8 _ rfl, h 9 _ rfl, h 10 _ rfl⟩
theorem SetAt.blk {w : World} {b o : Nat} {x : SetM} (h : SetAt w b o x) (j : Nat) (hj : j < 8) : w.cell? ⟨b, o + 3 + j, none⟩ = some (.string (x.bs[j]'(by rw [x.bs_length]; exact hj))) := by
  rw [Nat.add_assoc]; exact h (3 + j) _ (kc_bs x j hj)
theorem SetAt.kept {w w' : World} {b o : Nat} {x : SetM} (h : SetAt w b o x) (hk : w'.heap[b]? = w.heap[b]?) : SetAt w' b o x := fun j u hu => (World.cell?_of_block hk).trans (h j u hu)
theorem SetAt.below {w w' : World} {b o B : Nat} {x : SetM} (h : SetAt w b o x) (hb : Below B w w') (hB : b < B) : SetAt w' b o x := h.kept (hb.block b hB)
theorem SetAt.lt {w : World} {b o : Nat} {x : SetM} (h : SetAt w b o x) : b < w.heap.size := World.block_lt_of_cell? w _ (h 0 _ rfl)
theorem set_read {w : World} {ls : List SetM} {b off : Nat} (hc : ∀ j u, (kcs ls)[j]? = some u → w.cell? ⟨b, off + j, none⟩ = some u) (k : Nat) (h : k < ls.length) : SetAt w b (off + k * 11) ls[k] := by
  intro j u hu
  have hj : j < 11 := (List.getElem?_eq_some_iff.1 hu).1
  rw [Nat.add_assoc]
  exact hc _ _ ((kcs_at ls k h j hj).trans hu)

theorem below_drewN {B : Nat} {w w' : World} (h : Below B w w') (q : Nat) : Below B w (w'.drewN q) := ⟨h.os, h.tape, h.output, h.size, h.block⟩

end Go.Proofs.YtojjenclcidnkaaDoor
