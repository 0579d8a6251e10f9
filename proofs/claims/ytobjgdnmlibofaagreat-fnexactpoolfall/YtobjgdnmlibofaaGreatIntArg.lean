/-
  A list of numbers that came in as an argument.
-/
import Derived.Test.YtobjgdnmlibofaaGreatData
import Derived.OpenShut
set_option maxRecDepth 100000
namespace Go.Proofs.YtobjgdnmlibofaaGreat
open Go.ChangeShapes Go.WideShapes Go.ChangeAt Go.RowKit Go.Proofs.Palim

/-- A list of numbers that is an argument. -/
theorem ints_arg {H : Type} {enc : TypeId × Value → H} {W : World} {base : Nat} {v : Value} {d : DataW H} {p : List MemPlace} (hv : Value.okWide Tryz.prog W .any base 30 v) (h : DataW.Trod enc Tryz.prog W 0 (fun _ => true) true 30 v d p) :
    ∃ zs : List Int, Sl W 1 v zs.length (ics zs) ∧ Low W.heap.size v := by
  obtain ⟨A, n, c, rfl⟩ := okWide_slice Tryz.underlying30 hv
  obtain ⟨fuel, hf⟩ := h
  have ho : Cell.okWide Tryz.prog W .any base 30 (.slice A n c) := by simpa only [Value.okWide, Tryz.underlying30] using hv
  obtain ⟨zs, hz⟩ := ints_of (enc := enc) ho (by simpa [Value.cells] using hf)
  exact ⟨zs, hz, low_of_ok Tryz.underlying30 ho⟩

end Go.Proofs.YtobjgdnmlibofaaGreat
