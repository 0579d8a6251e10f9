/-
  The laws' own helpers on lists of numbers: copied, compared and marked; and such a list that came in as an argument.
-/
import Derived.Test.YtfacbjldpenpjaaDiskArg
set_option maxRecDepth 100000
namespace Go.Proofs.Ytfacbjldpenpjaa
open Go.ChangeShapes Go.WideShapes Go.ChangeAt Go.RowKit Go.Proofs.Palim Go.Deep

/-- The cells of a list of numbers. -/
def ics (zs : List Int) : List Value := zs.map (Value.int .i64)
theorem ics_length (zs : List Int) : (ics zs).length = zs.length := by simp [ics]
theorem ics_at (zs : List Int) (k : Nat) (h : k < zs.length) : (ics zs)[k]? = some (.int .i64 zs[k]) := by simp [ics, h]
theorem ics_snoc (a : List Int) (z : Int) : ics (a ++ [z]) = ics a ++ [.int .i64 z] := by simp [ics]
theorem infoInt : (Try.prog.info? 3).map (fun i => (i.zero, i.size, i.bytes)) = some (some (.int .i64 0), 1, 8) := by kernel_rfl

/-- A new list of numbers of the call's own. -/
def NewInts (w : World) (ss : List Int) (e : Ending) (w' : World) : Prop :=
  ∃ v, e = .returned v ∧ w'.ownsRow w.heap.size 3 1 v ss.length (ics ss) ∧ Below w.heap.size w w'

/-- Marked: the slice is the call's own still, and nothing else that was there has turned. -/
def MarkedI (k : Nat) (v : Value) (base n : Nat) (w : World) (e : Ending) (w' : World) : Prop :=
  e = .returned (.int .i64 ((k + n : Nat) : Int)) ∧ (∃ zs : List Int, zs.length = n ∧ w'.ownsRow base 3 1 v n (ics zs)) ∧ Turned (fun b => v.ownBlock = some b) w w'
def imarks (k n : Nat) : List Int := (List.range n).map fun i => ((k + i : Nat) : Int)
theorem imarks_length (k n : Nat) : (imarks k n).length = n := by simp [imarks]
theorem imarks_succ (k n : Nat) : imarks k (n + 1) = imarks k n ++ [((k + n : Nat) : Int)] := by simp [imarks, List.range_succ]

section
variable {H : Type} {enc : TypeId × Value → H} {W : World}
/-- A list of numbers that came in. -/
theorem ints_of {base fuel : Nat} {v : Value} {x : DataW H × List MemPlace} (ho : Cell.okWide Try.prog W .any base 32 v) (h : DataW.trod enc Try.prog W 0 (fun _ => true) true fuel 32 [v] = some x) :
    ∃ zs : List Int, Sl W 1 v zs.length (ics zs) := by
  rcases open_slice Try.underlying32 h with ⟨hcs, _⟩ | ⟨a, len, cap, m, n, D, Pl, hcs, _, hl, hm, hmm, _, hx⟩
  · obtain rfl : v = .slice none 0 0 := by simpa using hcs
    exact ⟨[], ⟨rfl, none, 0, rfl, Nat.le_refl _, Nat.zero_le _, Or.inl rfl⟩⟩
  · obtain rfl : v = .slice (some a) len cap := by simpa using hcs
    simp only [if_true] at hmm
    subst hmm
    have hsp : a.spot = none := by
      simp only [Cell.okWide, Try.underlying32, Cell.ok] at ho
      exact ho.2.2.2.1
    obtain ⟨b, off, sp⟩ := a
    simp at hsp
    subst hsp
    rw [cells3] at hx
    obtain ⟨L, hL⟩ := choose_lt (α := Int) (p := fun i z => W.cell? ⟨b, off + i, none⟩ = some (.int .i64 z)) (n := len) (fun i hi => by
      obtain ⟨cs', h1, h2⟩ := hx i (by omega)
      obtain ⟨z, hz, _, _⟩ := DataW.trod_int Try.underlying3 h2
      refine ⟨z, ?_⟩
      rw [add_none] at h1
      obtain ⟨_, _, hc⟩ := World.cells?_some h1
      have h0 := hc 0 (by omega)
      rw [add_none] at h0
      simp only [Nat.mul_one, Nat.add_zero] at h0
      rw [h0, hz]
      rfl)
    refine ⟨(List.range len).map L, ⟨by simp [ics], some ⟨b, off, none⟩, m, by simp, by simpa using hl, hm, Or.inr ⟨b, off, rfl, fun j u hu => ?_⟩⟩⟩
    have hj : j < len := by
      have := (List.getElem?_eq_some_iff.1 hu).1
      simpa [ics] using this
    rw [hL j hj]
    simpa [ics, hj] using hu
end
end Go.Proofs.Ytfacbjldpenpjaa
