/-
  A pointer that came in as an argument, opened.
-/
import Derived.Test.YtobjgdnmlibofaaGreatDiskArg
import Derived.Test.YtobjgdnmlibofaaGreatPtr
set_option maxRecDepth 100000
namespace Go.Proofs.YtobjgdnmlibofaaGreat
open Go.ChangeShapes Go.WideShapes Go.ChangeAt Go.RowKit Go.Proofs.Palim Go.Deep

section
variable {H : Type} {enc : TypeId × Value → H} {W : World}
theorem cellsPtr : Tryz.prog.cellsOf 132 = 3 := by kernel_rfl
/-- A pointer that came in. -/
theorem ptr_of {base : Nat} {v : Value} {x : DataW H} {p : List MemPlace} (ho : Value.okWide Tryz.prog W .any base 132 v) (h : DataW.Trod enc Tryz.prog W 0 (fun _ => true) true 132 v x p) :
    ∃ q : PtrM, v = pv q ∧ PtrFits q := by
  simp only [Value.okWide, Tryz.underlying132] at ho
  obtain ⟨cs, rfl, hsz, hrow⟩ := ho
  rw [cellsPtr] at hsz
  obtain ⟨v0, v1, vl, rfl⟩ : ∃ v0 v1 vl, cs = #[v0, v1, vl] := by
    match cs, hsz with
    | ⟨[v0, v1, vl]⟩, _ => exact ⟨v0, v1, vl, rfl⟩
  obtain ⟨fuel, hf⟩ := h
  obtain ⟨y0, y1, y2, n, _, hl, t0, t1, t2⟩ := trod_struct3 Tryz.underlying132 hf
  simp only [cells3, Value.cells, List.drop, List.take] at t0 t1 t2
  obtain ⟨a, ha, _, wa⟩ := DataW.trod_int Tryz.underlying3 t0
  obtain ⟨b, hb, _, wb⟩ := DataW.trod_int Tryz.underlying3 t1
  obtain ⟨c, hc, _, wc⟩ := DataW.trod_int Tryz.underlying3 t2
  simp at ha hb hc
  subst ha hb hc
  exact ⟨⟨a, b, c⟩, rfl, bounds_i64 wa, bounds_i64 wb, bounds_i64 wc⟩
end
end Go.Proofs.YtobjgdnmlibofaaGreat
