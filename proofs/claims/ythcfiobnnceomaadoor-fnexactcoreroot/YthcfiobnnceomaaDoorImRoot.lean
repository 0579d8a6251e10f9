/-
  impl's rooted: following From by name.
-/
import Derived.Test.YthcfiobnnceomaaDoorImOpen
set_option maxRecDepth 100000
namespace Go.Proofs.YthcfiobnnceomaaDoor
open Go.ChangeShapes Go.WideShapes Go.ChangeAt Go.RowKit Go.Proofs.Palim Go.Maps

theorem roots_true {ls : List SetM} {x : SetM} {m : Nat} (hk : x.kind = 1) (h : x.frm.size = 0) : rootsM ls (m + 1) x = true := by rw [rootsM, if_pos ⟨hk, h⟩]
theorem roots_miss {ls : List SetM} {x : SetM} {m : Nat} (h : ¬ (x.kind = 1 ∧ x.frm.size = 0)) (hf : findM ls x.frm = none) : rootsM ls (m + 1) x = false := by rw [rootsM, if_neg h, hf]
theorem roots_hit {ls : List SetM} {x y : SetM} {m : Nat} (h : ¬ (x.kind = 1 ∧ x.frm.size = 0)) (hf : findM ls x.frm = some y) : rootsM ls (m + 1) x = if y.kind = x.kind then false else rootsM ls m y := by rw [rootsM, if_neg h, hf]

end Go.Proofs.YthcfiobnnceomaaDoor
