/-
  impl: the outline of a core's sets, and whether the sets are right.
-/
import Derived.Test.YthcfiobnnceomaaDoorCoreD
import Derived.Test.YthcfiobnnceomaaDoorISet
import Derived.Test.YthcfiobnnceomaaDoorImRoot
import Derived.Test.YthcfiobnnceomaaDoorApp
import Derived.Test.YthcfiobnnceomaaDoorBookBox
set_option maxRecDepth 100000
namespace Go.Proofs.YthcfiobnnceomaaDoor
open Go.ChangeShapes Go.WideShapes Go.ChangeAt Go.RowKit Go.Proofs.Palim

theorem kc_one (x : SetM) : ∀ u ∈ kc x, u.oneCell' = true := by
  intro u hu
  simp [kc] at hu
  rcases hu with rfl | rfl | rfl | rfl | rfl | rfl | rfl | rfl | rfl | rfl | rfl <;> rfl
theorem sl_nm (w : World) (x : CSetM) (e : Nat) : Sl (w.alloc (.cells #[.string x.name, .int .i64 x.kind, .string x.frm, .string ⟨#[]⟩, .string ⟨#[]⟩, .string ⟨#[]⟩, .string ⟨#[]⟩, .string ⟨#[]⟩, .string ⟨#[]⟩, .string ⟨#[]⟩, .string ⟨#[]⟩] e)) 11 (.slice (some ⟨w.heap.size, 0, none⟩) 1 1) 1 (kc (nameM x)) := by
  refine ⟨rfl, _, _, rfl, Nat.le_refl _, by unfold maxLen; omega, Or.inr ⟨w.heap.size, 0, rfl, fun j u hu => ?_⟩⟩
  have := (box_new w #[.string x.name, .int .i64 x.kind, .string x.frm, .string ⟨#[]⟩, .string ⟨#[]⟩, .string ⟨#[]⟩, .string ⟨#[]⟩, .string ⟨#[]⟩, .string ⟨#[]⟩, .string ⟨#[]⟩, .string ⟨#[]⟩] e).cell j hu
  rwa [Nat.zero_add]
theorem aggSetD : Agg Tryd.prog 51 31 := ⟨Tryd.isAgg51, Tryd.sizeOf51⟩

end Go.Proofs.YthcfiobnnceomaaDoor
