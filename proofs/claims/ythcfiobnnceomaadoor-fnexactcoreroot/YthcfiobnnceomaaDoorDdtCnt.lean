/-
  Where an entry lies: l5At and DdtCount, spec's and impl's.
-/
import Derived.Test.YthcfiobnnceomaaDoorDdtOk
import Derived.Deep.RegionHeld3
set_option maxRecDepth 100000
namespace Go.Proofs.YthcfiobnnceomaaDoor
open Go.ChangeShapes Go.WideShapes Go.ChangeAt Go.RowKit Go.Proofs.Palim

/-- The place of an entry, or that where it belongs. -/
def AtP (ls : List EntM) (a : Int) (k : Nat) : Prop := k ≤ ls.length ∧ (∀ (i : Nat) (h : i < ls.length), i < k → ls[i].at_ < a) ∧ (∀ h : k < ls.length, ¬ ls[k].at_ < a)
def ThereP (ls : List EntM) (a : Int) (k : Nat) : Prop := ∃ h : k < ls.length, ls[k].at_ = a
def findE (ls : List EntM) (a : Int) : Option EntM := ls.find? (fun e => e.at_ == a)
noncomputable def countM (ls : List EntM) (a : Int) : Int := if DdtOkM ls then (findE ls a).elim 0 (·.count) else 0
theorem goodE_lt {ls : List EntM} (h : GoodE ls ls.length) {i j : Nat} (hij : i < j) (hj : j < ls.length) : (ls[i]'(by omega)).at_ < ls[j].at_ := by
  induction j with
  | zero => omega
  | succ j ih =>
    have h1 := (h (j + 1) hj hj).2 (by omega)
    simp only [Nat.add_sub_cancel] at h1
    by_cases e : i = j
    · subst e; exact h1
    · have h2 := ih (by omega) (by omega); omega
theorem find_first {ls : List EntM} {a : Int} {k : Nat} (hk : k < ls.length) (h : ls[k].at_ = a) (hb : ∀ (i : Nat) (h : i < ls.length), i < k → ls[i].at_ ≠ a) : findE ls a = some ls[k] := by
  unfold findE
  rw [List.find?_eq_some_iff_getElem]
  refine ⟨by simpa using h, k, hk, rfl, fun j hj => ?_⟩
  have := hb j (by omega) hj
  simpa using this
theorem find_none {ls : List EntM} {a : Int} (h : ∀ (i : Nat) (h : i < ls.length), ls[i].at_ ≠ a) : findE ls a = none := by
  unfold findE
  rw [List.find?_eq_none]
  intro x hx
  obtain ⟨i, hi, rfl⟩ := List.getElem_of_mem hx
  simpa using h i hi
theorem at_there {ls : List EntM} {a : Int} {k : Nat} (h : AtP ls a k) (ht : ThereP ls a k) : ∃ hk : k < ls.length, findE ls a = some ls[k] := by
  obtain ⟨hk, e⟩ := ht
  exact ⟨hk, find_first hk e fun i hi hik => by have := h.2.1 i hi hik; omega⟩
theorem at_none {ls : List EntM} {a : Int} {k : Nat} (hok : GoodE ls ls.length) (h : AtP ls a k) (ht : ¬ ThereP ls a k) : ∀ (i : Nat) (h : i < ls.length), ls[i].at_ ≠ a := by
  intro i hi e
  by_cases h1 : i < k
  · have := h.2.1 i hi h1; omega
  · by_cases h2 : i = k
    · subst h2; exact ht ⟨hi, e⟩
    · have h3 := h.2.2 (by omega)
      have h4 := goodE_lt hok (show k < i by omega) hi
      omega

def AtPost (ls : List EntM) (a : Int) (w : World) (e : Ending) (w' : World) : Prop :=
  ∃ (k : Nat) (r : Bool), e = .returned (.tuple #[.int .i64 (k : Int), .bool r]) ∧ AtP ls a k ∧ (r = true ↔ ThereP ls a k) ∧ Below w.heap.size w w'

theorem ret_int' {a b : Int} (h : a = b) : Ending.returned (.int .i64 a) = Ending.returned (.int .i64 b) := by rw [h]

end Go.Proofs.YthcfiobnnceomaaDoor
