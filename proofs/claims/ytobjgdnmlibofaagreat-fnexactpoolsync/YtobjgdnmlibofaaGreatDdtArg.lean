/-
  Entries of the table that came in as an argument, opened.
-/
import Derived.Test.YtobjgdnmlibofaaGreatDiskArg
import Derived.Test.YtobjgdnmlibofaaGreatDdtS
set_option maxRecDepth 100000
namespace Go.Proofs.YtobjgdnmlibofaaGreat
open Go.ChangeShapes Go.WideShapes Go.ChangeAt Go.RowKit Go.Proofs.Palim Go.Deep

section
variable {H : Type} {enc : TypeId × Value → H} {W : World}
theorem cellsEnt : Tryz.prog.cellsOf 148 = 3 := by kernel_rfl
instance : Inhabited EntM := ⟨⟨0, 0, 0⟩⟩
/-- Its three numbers are numbers of the machine. -/
def EntFits (e : EntM) : Prop := (-9223372036854775808 ≤ e.sum ∧ e.sum ≤ 9223372036854775807) ∧ (-9223372036854775808 ≤ e.at_ ∧ e.at_ ≤ 9223372036854775807) ∧ -9223372036854775808 ≤ e.count ∧ e.count ≤ 9223372036854775807
/-- One entry that came in. -/
theorem ent_of {fuel : Nat} {cs : List Value} {x : DataW H × List MemPlace} (h : DataW.trod enc Tryz.prog W 0 (fun _ => true) true fuel 148 cs = some x) :
    ∃ l : EntM, cs = ec l ∧ EntFits l := by
  obtain ⟨y0, y1, y2, n, _, hl, t0, t1, t2⟩ := trod_struct3 Tryz.underlying148 h
  rw [cellsEnt] at hl
  match cs, hl with
  | [c0, c1, c2], _ =>
    simp only [cells3, List.drop, List.take] at t0 t1 t2
    obtain ⟨a, ha, _, wa⟩ := DataW.trod_int Tryz.underlying3 t0
    obtain ⟨b, hb, _, wb⟩ := DataW.trod_int Tryz.underlying3 t1
    obtain ⟨c, hc, _, wc⟩ := DataW.trod_int Tryz.underlying3 t2
    simp at ha hb hc
    subst ha hb hc
    exact ⟨⟨a, b, c⟩, rfl, bounds_i64 wa, bounds_i64 wb, bounds_i64 wc⟩

/-- Entries that came in. -/
theorem ents_of {base fuel : Nat} {v : Value} {x : DataW H × List MemPlace} (ho : Cell.okWide Tryz.prog W .any base 28 v) (h : DataW.trod enc Tryz.prog W 0 (fun _ => true) true fuel 28 [v] = some x) :
    ∃ ls : List EntM, Sl W 3 v ls.length (ecs ls) ∧ ∀ l ∈ ls, EntFits l := by
  rcases open_slice Tryz.underlying28 h with ⟨hcs, _⟩ | ⟨a, len, cap, m, n, D, Pl, hcs, _, hl, hm, hmm, _, hx⟩
  · obtain rfl : v = .slice none 0 0 := by simpa using hcs
    exact ⟨[], ⟨rfl, none, 0, rfl, Nat.le_refl _, Nat.zero_le _, Or.inl rfl⟩, by simp⟩
  · obtain rfl : v = .slice (some a) len cap := by simpa using hcs
    simp only [if_true] at hmm
    subst hmm
    have hsp : a.spot = none := by
      simp only [Cell.okWide, Tryz.underlying28, Cell.ok] at ho
      exact ho.2.2.2.1
    obtain ⟨b, off, sp⟩ := a
    simp at hsp
    subst hsp
    rw [cellsEnt] at hx
    obtain ⟨L, hL⟩ := choose_lt (α := EntM) (p := fun i l => (W.cell? ⟨b, off + i * 3, none⟩ = some (.int .i64 l.sum) ∧ W.cell? ⟨b, off + i * 3 + 1, none⟩ = some (.int .i64 l.at_) ∧ W.cell? ⟨b, off + i * 3 + 2, none⟩ = some (.int .i64 l.count)) ∧ EntFits l) (n := len) (fun i hi => by
      obtain ⟨cs', h1, h2⟩ := hx i (by omega)
      obtain ⟨l, rfl, hr⟩ := ent_of h2
      rw [add_none] at h1
      refine ⟨l, ?_, hr⟩
      obtain ⟨_, _, hc⟩ := World.cells?_some h1
      have h0 := hc 0 (by omega)
      have h1 := hc 1 (by omega)
      have h2 := hc 2 (by omega)
      rw [add_none] at h0 h1 h2
      exact ⟨h0, h1, h2⟩)
    refine ⟨(List.range len).map L, ⟨ecs_length _, some ⟨b, off, none⟩, m, by simp, by simpa using hl, hm, Or.inr ⟨b, off, rfl, fun j u hu => ?_⟩⟩, ?_⟩
    · have hj : j < len * 3 := by
        have h := (List.getElem?_eq_some_iff.1 hu).1
        rw [ecs_length] at h
        simpa using h
      have hk : j / 3 < ((List.range len).map L).length := by simp; omega
      have hat := ecs_at ((List.range len).map L) (j / 3) hk
      have hcl := (hL (j / 3) (by omega)).1
      simp only [List.getElem_map, List.getElem_range] at hat
      have hj3 : j = j / 3 * 3 ∨ j = j / 3 * 3 + 1 ∨ j = j / 3 * 3 + 2 := by omega
      generalize j / 3 = k at hat hcl hj3
      rcases hj3 with rfl | rfl | rfl
      · rw [hat.1] at hu; rw [hcl.1]; exact hu
      · rw [hat.2.1] at hu; rw [← Nat.add_assoc, hcl.2.1]; exact hu
      · rw [hat.2.2] at hu; rw [← Nat.add_assoc, hcl.2.2]; exact hu
    · intro l hl
      obtain ⟨i, hi, rfl⟩ := List.mem_map.1 hl
      exact (hL i (List.mem_range.1 hi)).2

/-- A list of entries as a whole argument. -/
theorem ents_arg {base : Nat} {v : Value} {d : DataW H} {p : List MemPlace} (hv : Value.okWide Tryz.prog W .any base 28 v) (h : DataW.Trod enc Tryz.prog W 0 (fun _ => true) true 28 v d p) :
    ∃ ls : List EntM, Sl W 3 v ls.length (ecs ls) ∧ Low W.heap.size v ∧ ∀ l ∈ ls, EntFits l := by
  obtain ⟨A, n, c, rfl⟩ := okWide_slice Tryz.underlying28 hv
  obtain ⟨fuel, hf⟩ := h
  have ho : Cell.okWide Tryz.prog W .any base 28 (.slice A n c) := by simpa only [Value.okWide, Tryz.underlying28] using hv
  obtain ⟨ls, hz, hr⟩ := ents_of (enc := enc) ho (by simpa [Value.cells] using hf)
  exact ⟨ls, hz, low_of_ok Tryz.underlying28 ho, hr⟩
end
end Go.Proofs.YtobjgdnmlibofaaGreat
