/-
  Eight pointers that came in as an argument, opened.
-/
import Derived.Test.YtobjgdnmlibofaaGreatPtrArg
import Derived.Test.YtobjgdnmlibofaaGreatPtrA
set_option maxRecDepth 100000
namespace Go.Proofs.YtobjgdnmlibofaaGreat
open Go.ChangeShapes Go.WideShapes Go.ChangeAt Go.RowKit Go.Proofs.Palim Go.Deep

section
variable {H : Type} {enc : TypeId × Value → H} {W : World}
theorem cellsMapL : Tryz.prog.cellsOf 133 = 24 := by kernel_rfl
theorem cellsPtrL : Tryz.prog.cellsOf 132 = 3 := by kernel_rfl
theorem ptrc_of {fuel : Nat} {cs : List Value} {x : DataW H × List MemPlace} (h : DataW.trod enc Tryz.prog W 0 (fun _ => true) true fuel 132 cs = some x) : ∃ q : PtrM, cs = pc q ∧ PtrFits q := by
  obtain ⟨y0, y1, y2, n, _, hl, t0, t1, t2⟩ := trod_struct3 Tryz.underlying132 h
  rw [cellsPtrL] at hl
  match cs, hl with
  | [c0, c1, c2], _ =>
    simp only [cells3, List.drop, List.take] at t0 t1 t2
    obtain ⟨a, ha, _, wa⟩ := DataW.trod_int Tryz.underlying3 t0
    obtain ⟨b, hb, _, wb⟩ := DataW.trod_int Tryz.underlying3 t1
    obtain ⟨c, hc, _, wc⟩ := DataW.trod_int Tryz.underlying3 t2
    simp at ha hb hc
    subst ha hb hc
    exact ⟨⟨a, b, c⟩, rfl, bounds_i64 wa, bounds_i64 wb, bounds_i64 wc⟩
theorem cut3 (cs : List Value) : ∀ (n : Nat), cs.length = n * 3 → (∀ i, i < n → ∃ q : PtrM, (cs.drop (i * 3)).take 3 = pc q ∧ PtrFits q) → ∃ ps : List PtrM, ps.length = n ∧ cs = pcs ps ∧ ∀ p ∈ ps, PtrFits p := by
  intro n
  induction n generalizing cs with
  | zero => intro h _; exact ⟨[], rfl, List.length_eq_zero_iff.1 (by omega), by simp⟩
  | succ n ih =>
    intro h hq
    obtain ⟨q, hq0, hf⟩ := hq 0 (by omega)
    obtain ⟨ps, h1, h2, h3⟩ := ih (cs.drop 3) (by rw [List.length_drop]; omega) (fun i hi => by
      have := hq (i + 1) (by omega)
      rw [List.drop_drop, show 3 + i * 3 = (i + 1) * 3 by omega]
      exact this)
    refine ⟨q :: ps, by simp [h1], ?_, ?_⟩
    · rw [show pcs (q :: ps) = pc q ++ pcs ps by simp [pcs], ← h2, ← hq0]
      simp
    · intro p hp
      rcases List.mem_cons.1 hp with rfl | hp
      · exact hf
      · exact h3 p hp
theorem mapc_of {fuel : Nat} {cs : List Value} {x : DataW H × List MemPlace} (h : DataW.trod enc Tryz.prog W 0 (fun _ => true) true fuel 133 cs = some x) : ∃ ps : List PtrM, ps.length = 8 ∧ cs = pcs ps ∧ ∀ p ∈ ps, PtrFits p := by
  obtain ⟨xs, m, _, _, hl, hlen, hel⟩ := DataW.trod_array Tryz.underlying133 h
  rw [cellsMapL] at hl
  refine cut3 cs 8 (by omega) (fun i hi => ?_)
  have k0 := hel i hi
  rw [cellsPtrL, List.getElem?_eq_getElem (by omega)] at k0
  exact ptrc_of k0
theorem map_of {base : Nat} {v : Value} {x : DataW H} {p : List MemPlace} (ho : Value.okWide Tryz.prog W .any base 133 v) (h : DataW.Trod enc Tryz.prog W 0 (fun _ => true) true 133 v x p) :
    ∃ ps : List PtrM, ps.length = 8 ∧ v = .agg (pcs ps).toArray ∧ ∀ p ∈ ps, PtrFits p := by
  simp only [Value.okWide, Tryz.underlying133] at ho
  obtain ⟨cs, rfl, hsz, hrow⟩ := ho
  obtain ⟨fuel, hf⟩ := h
  obtain ⟨ps, h1, h2, h3⟩ := mapc_of (by simpa [Value.cells] using hf)
  refine ⟨ps, h1, ?_, h3⟩
  rw [← h2]
end
end Go.Proofs.YtobjgdnmlibofaaGreat
