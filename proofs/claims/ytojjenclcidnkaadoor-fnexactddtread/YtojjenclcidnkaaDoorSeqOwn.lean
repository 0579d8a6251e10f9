/-
  What a collecting loop holds abides the turn of the iterator's own cell.
-/
import Derived.Test.YtojjenclcidnkaaDoorSeqCell
import Derived.Test.YtojjenclcidnkaaDoorMem
set_option maxRecDepth 100000
namespace Go.Proofs.YtojjenclcidnkaaDoor
open Go.ChangeShapes Go.WideShapes Go.ChangeAt Go.RowKit Go.Proofs.Palim

theorem holds_abides {β : Type} {n₀ B C : Nat} {t e : TypeId} {size : Nat} (k : β → Nat) (f : β → List Value) (G : β → Value → Prop) (hB : B ≠ C) (hC : C < n₀) :
    AbidesC C (fun s W => ∃ v, Go.Boxed W B t v ∧ W.ownsRow n₀ e size v (k s) (f s) ∧ G s v) := by
  rintro s X X' row ⟨v, hv, hr, hG⟩ hg hrow
  refine ⟨v, (hg.block B hv.lt (fun e' => hB (hrow B e'.symm))).trans hv, own_kept hr (fun b e' => hg.block b (hr.lt b e').2 (fun e2 => ?_)), hG⟩
  have h1 := hrow b e2.symm
  have h2 := (hr.lt b e').1
  omega
theorem below_abides {β : Type} {n₀ C : Nat} {w₀ : World} (hn : n₀ ≤ w₀.heap.size) (hC : n₀ ≤ C) : AbidesC C (fun (_ : β) W => Below n₀ w₀ W) := by
  rintro s X X' row hb hg hrow
  exact hb.trans ⟨hg.os, hg.tape, hg.output, hg.size, fun i hi => hg.block i (by have := hb.size; omega) (fun e => by have := hrow i e.symm; omega)⟩
theorem size_abides {β : Type} {C n : Nat} : AbidesC C (fun (_ : β) W => n ≤ W.heap.size) := fun _ _ _ _ hs hg _ => Nat.le_trans hs hg.size
end Go.Proofs.YtojjenclcidnkaaDoor
