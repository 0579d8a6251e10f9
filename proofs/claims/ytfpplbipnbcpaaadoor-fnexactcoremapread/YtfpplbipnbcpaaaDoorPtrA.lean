/-
  A set's pointers: eight in an array; the laws' helpers on them.
-/
import Derived.Test.YtfpplbipnbcpaaaDoorPtr
import Derived.Test.YtfpplbipnbcpaaaDoorBig
import Derived.Test.YtfpplbipnbcpaaaDoorDdtS
set_option maxRecDepth 100000
namespace Go.Proofs.YtfpplbipnbcpaaaDoor
open Go.ChangeShapes Go.WideShapes Go.ChangeAt Go.RowKit Go.Proofs.Palim

def pc (p : PtrM) : List Value := [.int .i64 p.at_, .int .i64 p.sum, .int .i64 p.birth]
def pcs (ps : List PtrM) : List Value := ps.flatMap pc
theorem pcs_length (ls : List PtrM) : (pcs ls).length = ls.length * 3 := by
  induction ls with
  | nil => rfl
  | cons x ls ih => simp [pcs, pc] at ih ⊢; omega
theorem pcs_snoc (a : List PtrM) (x : PtrM) : pcs (a ++ [x]) = pcs a ++ pc x := by simp [pcs]
theorem pcs_at (ls : List PtrM) : ∀ (k : Nat) (h : k < ls.length), (pcs ls)[k * 3]? = some (.int .i64 ls[k].at_) ∧ (pcs ls)[k * 3 + 1]? = some (.int .i64 ls[k].sum) ∧ (pcs ls)[k * 3 + 2]? = some (.int .i64 ls[k].birth) := by
  induction ls with
  | nil => intro k h; simp at h
  | cons x ls ih =>
    intro k h
    have e : pcs (x :: ls) = [.int .i64 x.at_, .int .i64 x.sum, .int .i64 x.birth] ++ pcs ls := by simp [pcs, pc]
    cases k with
    | zero => rw [e]; exact ⟨rfl, rfl, rfl⟩
    | succ k =>
      have := ih k (by simpa using h)
      rw [e, show (k + 1) * 3 = k * 3 + 3 by omega]
      rw [List.getElem?_append_right (by simp), List.getElem?_append_right (by simp <;> omega), List.getElem?_append_right (by simp <;> omega)]
      simp only [List.length_cons, List.length_nil, List.getElem_cons_succ]
      rw [show k * 3 + 3 - (0 + 1 + 1 + 1) = k * 3 by omega, show k * 3 + 3 + 1 - (0 + 1 + 1 + 1) = k * 3 + 1 by omega, show k * 3 + 3 + 2 - (0 + 1 + 1 + 1) = k * 3 + 2 by omega]
      exact this
theorem ptr_read {w : World} {ls : List PtrM} {b off : Nat} (hc : ∀ j u, (pcs ls)[j]? = some u → w.cell? ⟨b, off + j, none⟩ = some u) (k : Nat) (h : k < ls.length) :
    w.cell? ⟨b, off + k * 3, none⟩ = some (.int .i64 ls[k].at_) ∧ w.cell? ⟨b, off + k * 3 + 1, none⟩ = some (.int .i64 ls[k].sum) ∧ w.cell? ⟨b, off + k * 3 + 2, none⟩ = some (.int .i64 ls[k].birth) := by
  have hat := pcs_at ls k h
  exact ⟨hc _ _ hat.1, by rw [Nat.add_assoc]; exact hc _ _ hat.2.1, by rw [Nat.add_assoc]; exact hc _ _ hat.2.2⟩
theorem ptr_box {w : World} {ls : List PtrM} {b : Nat} (hB : Box w b (pcs ls)) (k : Nat) (h : k < ls.length) :
    w.cell? ⟨b, k * 3, none⟩ = some (.int .i64 ls[k].at_) ∧ w.cell? ⟨b, k * 3 + 1, none⟩ = some (.int .i64 ls[k].sum) ∧ w.cell? ⟨b, k * 3 + 2, none⟩ = some (.int .i64 ls[k].birth) := by
  have hat := pcs_at ls k h
  exact ⟨hB.cell _ hat.1, hB.cell _ hat.2.1, hB.cell _ hat.2.2⟩
theorem pcs_one (ls : List PtrM) : ∀ v ∈ pcs ls, v.oneCell' = true := by
  intro v hv
  obtain ⟨p, _, hp⟩ := List.mem_flatMap.1 hv
  simp [pc] at hp
  rcases hp with rfl | rfl | rfl <;> rfl
/-- Eight pointers' value. -/
def mapV (ps : List PtrM) : Value := .agg (pcs ps).toArray
theorem aggMap : Agg Tryd.prog 30 24 := ⟨Tryd.isAgg30, Tryd.sizeOf30⟩

/-- Eight null pointers. -/
def z24 : Array Value := #[.int .i64 0, .int .i64 0, .int .i64 0, .int .i64 0, .int .i64 0, .int .i64 0, .int .i64 0, .int .i64 0, .int .i64 0, .int .i64 0, .int .i64 0, .int .i64 0, .int .i64 0, .int .i64 0, .int .i64 0, .int .i64 0, .int .i64 0, .int .i64 0, .int .i64 0, .int .i64 0, .int .i64 0, .int .i64 0, .int .i64 0, .int .i64 0]

end Go.Proofs.YtfpplbipnbcpaaaDoor
