/-
  The document's l4At and l4Roots.
-/
import Derived.Test.YthcfiobnnceomaaDoorBookMath
import Derived.Test.YthcfiobnnceomaaDoorBookBox
import Derived.BigQuiet
set_option maxRecDepth 100000
namespace Go.Proofs.YthcfiobnnceomaaDoor
open Go.ChangeShapes Go.WideShapes Go.ChangeAt Go.RowKit Go.Proofs.Palim

theorem atM_eq : ∀ {ls : List SetM} {s : ByteArray} {k : Nat}, k ≤ ls.length → (∀ (j : Nat) (h : j < ls.length), j < k → Lt ls[j].name s) → (∀ (h : k < ls.length), ¬ Lt ls[k].name s) → atM ls s = k
  | [], s, k, hk, _, _ => by simp at hk; subst hk; rfl
  | a :: l, s, 0, _, _, h2 => by
    have := h2 (by simp)
    simp at this
    simp [atM, this]
  | a :: l, s, k + 1, hk, h1, h2 => by
    have ha := h1 0 (by simp) (by omega)
    simp at ha
    have ih := atM_eq (ls := l) (s := s) (k := k) (by simpa using hk) (fun j h hj => h1 (j + 1) (by simpa using h) (by omega)) (fun h => h2 (by simpa using h))
    simp [atM, ha] at ih ⊢
    exact ih
theorem ret_at {a b : Nat} {x y : Bool} (h : a = b) (h2 : x = y) : Ending.returned (.tuple #[.int .i64 (a : Int), .bool x]) = Ending.returned (.tuple #[.int .i64 (b : Int), .bool y]) := by rw [h, h2]

end Go.Proofs.YthcfiobnnceomaaDoor
