/-
  The document's BookOk.
-/
import Derived.Test.YthcfiobnnceomaaDoorSpecRoots
import Derived.Deep.RegionHeld3
import Derived.Laws.Cover1
set_option maxRecDepth 100000
namespace Go.Proofs.YthcfiobnnceomaaDoor
open Go.ChangeShapes Go.WideShapes Go.ChangeAt Go.RowKit Go.Proofs.Palim

/-- The sets before k are right, each behind the one before it. -/
def GoodTo (ls : List SetM) (k : Nat) : Prop := ∀ (j : Nat) (h : j < ls.length), j < k → SetOkM ls[j] ∧ ∀ (_ : 0 < j), Lt (ls[j - 1]'(by omega)).name ls[j].name
theorem asc_of_adj {ls : List SetM} (h : ∀ (j : Nat) (h : j < ls.length) (_ : 0 < j), Lt (ls[j - 1]'(by omega)).name ls[j].name) : Asc ls := by
  unfold Asc
  rw [List.pairwise_iff_getElem]
  intro i j hi hj hij
  induction j with
  | zero => omega
  | succ j ih =>
    have h1 := h (j + 1) hj (by omega)
    simp only [Nat.add_sub_cancel] at h1
    by_cases e : i = j
    · subst e; exact h1
    · exact (ih (by omega) (by omega)).trans h1
theorem good_all {ls : List SetM} {k : Nat} (h : GoodTo ls k) (hk : ls.length ≤ k) : (∀ x ∈ ls, SetOkM x) ∧ Asc ls := by
  refine ⟨fun x hx => ?_, asc_of_adj fun j hj h0 => (h j hj (by omega)).2 h0⟩
  obtain ⟨i, hi, rfl⟩ := List.mem_iff_getElem.1 hx
  exact (h i hi (by omega)).1
theorem bad_set {ls : List SetM} {k : Nat} (hk : k < ls.length) (h : ¬ SetOkM ls[k]) : decide (BookOkM ls) = false :=
  decide_eq_false fun c => h (c.2.1 _ (List.getElem_mem hk))
theorem bad_asc {ls : List SetM} {k : Nat} (hk : k < ls.length) (h0 : 0 < k) (h : ¬ Lt (ls[k - 1]'(by omega)).name ls[k].name) : decide (BookOkM ls) = false :=
  decide_eq_false fun c => h ((List.pairwise_iff_getElem.1 c.2.2.1) (k - 1) k (by omega) hk (by omega))
theorem bad_len {ls : List SetM} (h : 6 < ls.length) : decide (BookOkM ls) = false := decide_eq_false fun c => by have := c.1; omega
theorem bad_root {ls : List SetM} {k : Nat} (hk : k < ls.length) (h : rootsM ls ls.length ls[k] = false) : decide (BookOkM ls) = false :=
  decide_eq_false fun c => by have := c.2.2.2 _ (List.getElem_mem hk); rw [h] at this; cases this
theorem good_book {ls : List SetM} (hl : ls.length ≤ 6) (h : GoodTo ls ls.length) (hr : ∀ (j : Nat) (h : j < ls.length), rootsM ls ls.length ls[j] = true) : decide (BookOkM ls) = true := by
  obtain ⟨h1, h2⟩ := good_all h (Nat.le_refl _)
  refine decide_eq_true ⟨hl, h1, h2, fun x hx => ?_⟩
  obtain ⟨i, hi, rfl⟩ := List.mem_iff_getElem.1 hx
  exact hr i hi
theorem good_succ {ls : List SetM} {k : Nat} (h : GoodTo ls k) (hk : k < ls.length) (h1 : SetOkM ls[k]) (h2 : ∀ (_ : 0 < k), Lt (ls[k - 1]'(by omega)).name ls[k].name) : GoodTo ls (k + 1) := by
  intro j hj hjk
  rcases Nat.lt_succ_iff_lt_or_eq.1 hjk with h3 | rfl
  · exact h j hj h3
  · exact ⟨h1, h2⟩
theorem leq_iff {a b : ByteArray} : (Op.bytesLess a.toList b.toList || a.toList == b.toList) = !decide (Lt b a) := by
  by_cases h : Lt b a
  · rw [decide_eq_true h]
    have h1 : Op.bytesLess a.toList b.toList = false := by
      cases h2 : Op.bytesLess a.toList b.toList with
      | false => rfl
      | true => exact absurd (h.trans h2) (Lt.irr _)
    have h2 : (a.toList == b.toList) = false := beq_eq_false_iff_ne.2 fun e => h.ne (toList_inj e).symm
    rw [h1, h2]; rfl
  · rw [decide_eq_false h]
    by_cases h1 : Lt a b
    · have : Op.bytesLess a.toList b.toList = true := h1
      rw [this]; rfl
    · rw [Lt.total h1 h]; simp

theorem BookName_is (s : ByteArray) (r : Bool) (w : World) (hs : s.size ≤ 1048576) (hr : decide (NameOk s) = r) :
    Calls Tryd.prog 46 #[.string s] w fun e w' => e = .returned (.bool r) ∧ w' = w := hr ▸ BookName_any s w (by unfold maxLen; omega)

end Go.Proofs.YthcfiobnnceomaaDoor
