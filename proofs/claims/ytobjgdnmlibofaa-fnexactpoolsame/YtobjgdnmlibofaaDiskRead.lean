/-
  spec's DiskRead.
-/
import Derived.Test.YtobjgdnmlibofaaDiskOk
set_option maxRecDepth 100000
namespace Go.Proofs.Ytobjgdnmlibofaa
open Go.ChangeShapes Go.WideShapes Go.ChangeAt Go.RowKit Go.Proofs.Palim

/-- The text of a sector that is there: the last late write of it, or what lies on the side. -/
def lastOf (side at_ : Int) : List LateM → Option ByteArray
  | [] => none
  | x :: xs => match lastOf side at_ xs with
    | some t => some t
    | none => if x.side = side ∧ x.at_ = at_ then some x.text else none
theorem lastOf_snoc (side at_ : Int) (ls : List LateM) (x : LateM) : lastOf side at_ (ls ++ [x]) = if x.side = side ∧ x.at_ = at_ then some x.text else lastOf side at_ ls := by
  induction ls with
  | nil => simp [lastOf]
  | cons y ls ih =>
    simp only [List.cons_append, lastOf, ih]
    by_cases h : x.side = side ∧ x.at_ = at_
    · simp [h]
    · simp [h]
def sideOf (d : DiskM) (side : Int) : List ByteArray := if side = 0 then d.s0 else d.s1
def secM (d : DiskM) (side at_ : Int) : ByteArray := (lastOf side at_ d.late).getD ((sideOf d side).getD at_.toNat ⟨#[]⟩)

theorem lastOf_append (side at_ : Int) (a b : List LateM) : lastOf side at_ (a ++ b) = (lastOf side at_ b).or (lastOf side at_ a) := by
  induction a with
  | nil => simp [lastOf]
  | cons x a ih =>
    simp only [List.cons_append, lastOf, ih]
    cases lastOf side at_ b <;> simp
theorem lastOf_at {side at_ : Int} {ls : List LateM} {j : Nat} (hj : j < ls.length) (hn : lastOf side at_ (ls.drop (j + 1)) = none) :
    (ls[j].side = side ∧ ls[j].at_ = at_ → lastOf side at_ ls = some ls[j].text) ∧ (¬ (ls[j].side = side ∧ ls[j].at_ = at_) → lastOf side at_ (ls.drop j) = none) := by
  have hd : ls.drop j = ls[j] :: ls.drop (j + 1) := List.drop_eq_getElem_cons hj
  constructor
  · intro h
    have h2 : lastOf side at_ (ls.drop j) = some ls[j].text := by rw [hd]; simp [lastOf, hn, h]
    have h3 := lastOf_append side at_ (ls.take j) (ls.drop j)
    rw [List.take_append_drop, h2] at h3
    exact h3
  · intro h
    rw [hd]; simp [lastOf, hn, h]

theorem ret_str {a b : ByteArray} (h : a = b) : Ending.returned (.string a) = Ending.returned (.string b) := by rw [h]

end Go.Proofs.Ytobjgdnmlibofaa
