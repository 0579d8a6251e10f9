/-
  Texts joined into one: the draws of disks, and what they want.
-/
import Derived.Test.YtglgdbnhnchabaaGreatDoorBase
import Derived.WalkKit
import Derived.ProofKit
import Derived.Lib.Hide
import Derived.WalkSpells
import Derived.WalkSmall
import Derived.Laws.Pointers
import Derived.Test.YtglgdbnhnchabaaGreatDoorBookName

/-
  The laws' own helpers on sets of a book and on their eight blocks.
-/
set_option maxRecDepth 100000
namespace Go.Proofs.YtglgdbnhnchabaaGreatDoor
open Go.ChangeShapes Go.WideShapes Go.ChangeAt Go.RowKit Go.Proofs.Palim

/-- A set, as plain data. -/
structure SetM where
  name : ByteArray
  kind : Int
  frm : ByteArray
  b0 : ByteArray
  b1 : ByteArray
  b2 : ByteArray
  b3 : ByteArray
  b4 : ByteArray
  b5 : ByteArray
  b6 : ByteArray
  b7 : ByteArray
def SetM.bs (x : SetM) : List ByteArray := [x.b0, x.b1, x.b2, x.b3, x.b4, x.b5, x.b6, x.b7]
theorem SetM.bs_length (x : SetM) : x.bs.length = 8 := rfl
/-- Its cells, and those of a list of sets. -/
def kc (x : SetM) : List Value := [.string x.name, .int .i64 x.kind, .string x.frm, .string x.b0, .string x.b1, .string x.b2, .string x.b3, .string x.b4, .string x.b5, .string x.b6, .string x.b7]
theorem kc_length (x : SetM) : (kc x).length = 11 := rfl
theorem kc_bs (x : SetM) (j : Nat) (h : j < 8) : (kc x)[3 + j]? = some (.string (x.bs[j]'(by rw [x.bs_length]; exact h))) := by
  match j, h with
  | 0, _ => rfl
  | 1, _ => rfl
  | 2, _ => rfl
  | 3, _ => rfl
  | 4, _ => rfl
  | 5, _ => rfl
  | 6, _ => rfl
  | 7, _ => rfl
def kcs (ls : List SetM) : List Value := ls.flatMap kc
theorem kcs_length (ls : List SetM) : (kcs ls).length = ls.length * 11 := by
  induction ls with
  | nil => rfl
  | cons x ls ih => simp [kcs, kc] at ih ⊢; omega
theorem kcs_snoc (a : List SetM) (x : SetM) : kcs (a ++ [x]) = kcs a ++ kc x := by simp [kcs]
theorem kcs_append (a b : List SetM) : kcs (a ++ b) = kcs a ++ kcs b := by simp [kcs]
theorem kcs_at (ls : List SetM) : ∀ (k : Nat) (h : k < ls.length) (j : Nat), j < 11 → (kcs ls)[k * 11 + j]? = (kc ls[k])[j]? := by
  induction ls with
  | nil => intro k h; simp at h
  | cons x ls ih =>
    intro k h j hj
    have e : kcs (x :: ls) = kc x ++ kcs ls := by simp [kcs]
    cases k with
    | zero => rw [e, List.getElem?_append_left (by rw [kc_length]; omega)]; simp
    | succ k =>
      have := ih k (by simpa using h) j hj
      rw [e, List.getElem?_append_right (by rw [kc_length]; omega), kc_length, show (k + 1) * 11 + j - 11 = k * 11 + j by omega, this]
      simp
/-- A set reads at these cells. -/
def SetAt (w : World) (b o : Nat) (x : SetM) : Prop := ∀ j u, (kc x)[j]? = some u → w.cell? ⟨b, o + j, none⟩ = some u
theorem SetAt.all {w : World} {b o : Nat} {x : SetM} (h : SetAt w b o x) :
    w.cell? ⟨b, o, none⟩ = some (.string x.name) ∧ w.cell? ⟨b, o + 1, none⟩ = some (.int .i64 x.kind) ∧ w.cell? ⟨b, o + 2, none⟩ = some (.string x.frm) ∧
    w.cell? ⟨b, o + 3, none⟩ = some (.string x.b0) ∧ w.cell? ⟨b, o + 4, none⟩ = some (.string x.b1) ∧ w.cell? ⟨b, o + 5, none⟩ = some (.string x.b2) ∧ w.cell? ⟨b, o + 6, none⟩ = some (.string x.b3) ∧
    w.cell? ⟨b, o + 7, none⟩ = some (.string x.b4) ∧ w.cell? ⟨b, o + 8, none⟩ = some (.string x.b5) ∧ w.cell? ⟨b, o + 9, none⟩ = some (.string x.b6) ∧ w.cell? ⟨b, o + 10, none⟩ = some (.string x.b7) :=
  ⟨h 0 _ rfl, h 1 _ rfl, h 2 _ rfl, h 3 _ rfl, h 4 _ rfl, h 5 _ rfl, h 6 _ rfl, h 7 _ rfl, h 8 _ rfl, h 9 _ rfl, h 10 _ rfl⟩
theorem SetAt.blk {w : World} {b o : Nat} {x : SetM} (h : SetAt w b o x) (j : Nat) (hj : j < 8) : w.cell? ⟨b, o + 3 + j, none⟩ = some (.string (x.bs[j]'(by rw [x.bs_length]; exact hj))) := by
  rw [Nat.add_assoc]; exact h (3 + j) _ (kc_bs x j hj)
theorem SetAt.kept {w w' : World} {b o : Nat} {x : SetM} (h : SetAt w b o x) (hk : w'.heap[b]? = w.heap[b]?) : SetAt w' b o x := fun j u hu => (World.cell?_of_block hk).trans (h j u hu)
theorem SetAt.below {w w' : World} {b o B : Nat} {x : SetM} (h : SetAt w b o x) (hb : Below B w w') (hB : b < B) : SetAt w' b o x := h.kept (hb.block b hB)
theorem SetAt.lt {w : World} {b o : Nat} {x : SetM} (h : SetAt w b o x) : b < w.heap.size := World.block_lt_of_cell? w _ (h 0 _ rfl)
theorem set_read {w : World} {ls : List SetM} {b off : Nat} (hc : ∀ j u, (kcs ls)[j]? = some u → w.cell? ⟨b, off + j, none⟩ = some u) (k : Nat) (h : k < ls.length) : SetAt w b (off + k * 11) ls[k] := by
  intro j u hu
  have hj : j < 11 := (List.getElem?_eq_some_iff.1 hu).1
  rw [Nat.add_assoc]
  exact hc _ _ ((kcs_at ls k h j hj).trans hu)

theorem below_drewN {B : Nat} {w w' : World} (h : Below B w w') (q : Nat) : Below B w (w'.drewN q) := ⟨h.os, h.tape, h.output, h.size, h.block⟩

/-- A set as a value. -/
theorem infoSet : (Tryz.prog.info? 111).map (fun i => (i.zero, i.size, i.bytes)) = some (some (.agg #[.string ⟨#[]⟩, .int .i64 0, .string ⟨#[]⟩, .string ⟨#[]⟩, .string ⟨#[]⟩, .string ⟨#[]⟩, .string ⟨#[]⟩, .string ⟨#[]⟩, .string ⟨#[]⟩, .string ⟨#[]⟩, .string ⟨#[]⟩]), 11, 168) := by kernel_rfl

end Go.Proofs.YtglgdbnhnchabaaGreatDoor

/-
  The laws' own helpers on lists of sets: measured, copied, compared.
-/
set_option maxRecDepth 100000
namespace Go.Proofs.YtglgdbnhnchabaaGreatDoor
open Go.ChangeShapes Go.WideShapes Go.ChangeAt Go.RowKit Go.Proofs.Palim

theorem take_set11 {α : Type} (xs : List α) (k : Nat) (a0 a1 a2 a3 a4 a5 a6 a7 a8 a9 a10 : α) (h : k * 11 + 10 < xs.length) :
    ((((((((((((xs.set (k * 11) a0).set (k * 11 + 1) a1).set (k * 11 + 2) a2).set (k * 11 + 3) a3).set (k * 11 + 4) a4).set (k * 11 + 5) a5).set (k * 11 + 6) a6).set (k * 11 + 7) a7).set (k * 11 + 8) a8).set (k * 11 + 9) a9).set (k * 11 + 10) a10)).take ((k + 1) * 11) = xs.take (k * 11) ++ [a0, a1, a2, a3, a4, a5, a6, a7, a8, a9, a10] := by
  rw [show (k + 1) * 11 = k * 11 + 10 + 1 by omega]
  iterate 10 rw [take_set_succ _ _ _ (by simp; omega)]
  rw [take_set_succ _ _ _ (by omega)]
  simp

/-- How many bytes a set holds. -/
def ksz (x : SetM) : Nat := x.name.size + x.frm.size + tot x.bs
/-- A set whose texts may come in. -/
def KFit (x : SetM) : Prop := x.name.size ≤ maxLen ∧ x.frm.size ≤ maxLen ∧ ∀ s ∈ x.bs, s.size ≤ maxLen

/-- How many bytes a list of sets holds. -/
def kszs (ls : List SetM) : Nat := (ls.map ksz).sum
theorem kszs_snoc (a : List SetM) (x : SetM) : kszs (a ++ [x]) = kszs a + ksz x := by simp [kszs]

/-- A new list of sets of the call's own. -/
def NewSets (w : World) (ls : List SetM) (e : Ending) (w' : World) : Prop :=
  ∃ v, e = .returned v ∧ w'.ownsRow w.heap.size 111 11 v ls.length (kcs ls) ∧ Below w.heap.size w w'

end Go.Proofs.YtglgdbnhnchabaaGreatDoor

/-
  Books: as plain data, read in memory, and the laws' own helpers on them.
-/
set_option maxRecDepth 100000
namespace Go.Proofs.YtglgdbnhnchabaaGreatDoor
open Go.ChangeShapes Go.WideShapes Go.ChangeAt Go.RowKit Go.Proofs.Palim

theorem list_eq_ofB {α : Type} {a b : List α} (hl : a.length = b.length) (h : ∀ (j : Nat) (h0 : j < a.length) (h1 : j < b.length), a[j] = b[j]) : a = b := List.ext_getElem hl fun j h0 h1 => h j h0 h1
theorem ret_boolB {a b : Bool} (h : a = b) : Ending.returned (.bool a) = Ending.returned (.bool b) := by rw [h]

/-- A book reads as these sets, and its block is there. -/
structure BookR (w : World) (v : Value) (ls : List SetM) : Prop where
  r : Sl w 11 v ls.length (kcs ls)
  l : ∀ b, v.ownBlock = some b → b < w.heap.size
theorem BookR.below {w w' : World} {v : Value} {ls : List SetM} {B : Nat} (h : BookR w v ls) (hb : Below B w w') (hB : w.heap.size ≤ B) : BookR w' v ls :=
  ⟨h.r.below hb (fun b e => Nat.lt_of_lt_of_le (h.l b e) hB), fun b e => Nat.lt_of_lt_of_le (h.l b e) hb.size⟩
theorem BookR.form {w : World} {v : Value} {ls : List SetM} (h : BookR w v ls) : ∃ A c, v = .slice A ls.length c := by
  obtain ⟨_, A, c, rfl, _⟩ := h.r
  exact ⟨A, c, rfl⟩
/-- A book that is not too long, and whose texts are not. -/
structure BookShort (ls : List SetM) : Prop where
  n : ls.length ≤ 1048576
  z : ∀ x ∈ ls, x.name.size ≤ 1048576 ∧ x.frm.size ≤ 1048576 ∧ ∀ s ∈ x.bs, s.size ≤ 1048576
/-- The book is the call's own. -/
structure BookOwn (w : World) (base : Nat) (v : Value) (ls : List SetM) : Prop where
  o : w.ownsRow base 111 11 v ls.length (kcs ls)
theorem BookOwn.reads {w : World} {base : Nat} {v : Value} {ls : List SetM} (h : BookOwn w base v ls) : BookR w v ls := ⟨sl_of_own h.o, fun b e => (h.o.lt b e).2⟩
theorem BookOwn.below {w w' : World} {base : Nat} {v : Value} {ls : List SetM} (h : BookOwn w base v ls) (hb : Below w.heap.size w w') : BookOwn w' base v ls := ⟨own_kept h.o fun b e => hb.block b (h.o.lt b e).2⟩
/-- A new book. -/
def NewBook (w : World) (ls : List SetM) (e : Ending) (w' : World) : Prop := ∃ v, e = .returned (.agg #[v]) ∧ BookOwn w' w.heap.size v ls ∧ Below w.heap.size w w'

theorem Below.new1 {w : World} (o : Obj) : Below w.heap.size w (w.alloc o) := (Below.refl _ _).alloc (Nat.le_refl _) _

theorem tot_le8 {ss : List ByteArray} {s : ByteArray} (h : s ∈ ss) : s.size ≤ tot ss := by
  induction ss with
  | nil => cases h
  | cons a ss ih =>
    rcases List.mem_cons.1 h with rfl | h
    · simp [tot]
    · have := ih h; simp [tot] at this ⊢; omega
theorem kszs_le {ls : List SetM} {x : SetM} (h : x ∈ ls) : ksz x ≤ kszs ls := by
  induction ls with
  | nil => cases h
  | cons a ss ih =>
    rcases List.mem_cons.1 h with rfl | h
    · simp [kszs]
    · have := ih h; simp [kszs] at this ⊢; omega
theorem book_short {ls : List SetM} (h : ls.length + kszs ls ≤ 1048576) : BookShort ls := by
  refine ⟨by omega, fun x hx => ?_⟩
  have h1 := kszs_le hx
  unfold ksz at h1
  refine ⟨by omega, by omega, fun s hs => ?_⟩
  have := tot_le8 hs
  omega
end Go.Proofs.YtglgdbnhnchabaaGreatDoor
