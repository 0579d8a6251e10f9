/-
  What a log holds of a commit, as plain data.
-/
import Derived.Test.YtgjlhokakcdpbaaGreatDoorLogR
import Derived.Test.YtgjlhokakcdpbaaGreatDoorDisks
set_option maxRecDepth 100000
namespace Go.Proofs.YtgjlhokakcdpbaaGreatDoor
open Go.ChangeShapes Go.WideShapes Go.ChangeAt Go.RowKit Go.Proofs.Palim

/-- A call's cells. -/
def oc (r : RecM) : List Value := [.int .i64 r.kind, .string r.a, .string r.b, .int .i64 r.i, .string r.text]
def ocs (ls : List RecM) : List Value := ls.flatMap oc
theorem ocs_nil : ocs [] = [] := rfl
theorem ocs_snoc (ls : List RecM) (r : RecM) : ocs (ls ++ [r]) = ocs ls ++ oc r := by simp [ocs]
theorem ocs_length (ls : List RecM) : (ocs ls).length = ls.length * 5 := by
  induction ls with
  | nil => rfl
  | cons r ls ih => rw [show ocs (r :: ls) = oc r ++ ocs ls from rfl, List.length_append, ih]; show 5 + _ = _; rw [List.length_cons]; omega
/-- A side has the record of this commit and number in its slot. -/
def HitM (d : DiskM) (side : Int) (t : Int) (q : Nat) (r : RecM) : Prop := LSpells (readOut d side (5 + (q : Int))) r ∧ r.txg = t ∧ r.seq = (q : Int)
theorem hit_one {d : DiskM} {side t : Int} {q : Nat} {r x : RecM} (h : HitM d side t q r) (k : HitM d side t q x) : r = x := lspells_one h.1 k.1
/-- What a slot has: the first side's record, or else the second one's, or none. -/
def SlotM (d : DiskM) (t : Int) (q : Nat) : Option RecM → Prop
  | some r => HitM d 0 t q r ∨ ((∀ x, ¬ HitM d 0 t q x) ∧ HitM d 1 t q r)
  | none => (∀ x, ¬ HitM d 0 t q x) ∧ ∀ x, ¬ HitM d 1 t q x
theorem slot_one {d : DiskM} {t : Int} {q : Nat} {o p : Option RecM} (h : SlotM d t q o) (k : SlotM d t q p) : o = p := by
  cases o with
  | none =>
    cases p with
    | none => rfl
    | some x => rcases k with k | k
                · exact absurd k (h.1 x)
                · exact absurd k.2 (h.2 x)
  | some r =>
    cases p with
    | none => rcases h with h | h
              · exact absurd h (k.1 r)
              · exact absurd h.2 (k.2 r)
    | some x =>
      rcases h with h | h <;> rcases k with k | k
      · rw [hit_one h k]
      · exact absurd h (k.1 r)
      · exact absurd k (h.1 x)
      · rw [hit_one h.2 k.2]
theorem slot_ex (d : DiskM) (t : Int) (q : Nat) : ∃ o, SlotM d t q o := by
  by_cases h0 : ∃ x, HitM d 0 t q x
  · obtain ⟨x, hx⟩ := h0
    exact ⟨some x, Or.inl hx⟩
  · have n0 : ∀ x, ¬ HitM d 0 t q x := fun x hx => h0 ⟨x, hx⟩
    by_cases h1 : ∃ x, HitM d 1 t q x
    · obtain ⟨x, hx⟩ := h1
      exact ⟨some x, Or.inr ⟨n0, hx⟩⟩
    · exact ⟨none, n0, fun x hx => h1 ⟨x, hx⟩⟩
/-- These records lie in the first slots, one behind the other. -/
def LeadM (d : DiskM) (t : Int) (ls : List RecM) : Prop := ∀ (j : Nat) (h : j < ls.length), SlotM d t j (some ls[j])
def FoundM (d : DiskM) (t : Int) (ls : List RecM) : Prop := ls.length ≤ 8 ∧ LeadM d t ls ∧ (ls.length < 8 → SlotM d t ls.length none)
theorem lead_snoc {d : DiskM} {t : Int} {ls : List RecM} {r : RecM} (h : LeadM d t ls) (k : SlotM d t ls.length (some r)) : LeadM d t (ls ++ [r]) := by
  intro j hj
  rw [List.length_append, List.length_singleton] at hj
  by_cases e : j < ls.length
  · rw [List.getElem_append_left e]; exact h j e
  · have : j = ls.length := by omega
    subst this
    rw [List.getElem_append_right (Nat.le_refl _)]
    simpa using k
theorem found_of {d : DiskM} {t : Int} : ∀ (n : Nat), n ≤ 8 → ∃ ls : List RecM, ls.length ≤ n ∧ LeadM d t ls ∧ (ls.length < n → SlotM d t ls.length none)
  | 0, _ => ⟨[], Nat.le_refl _, fun j h => absurd h (Nat.not_lt_zero _), fun h => absurd h (Nat.lt_irrefl _)⟩
  | n + 1, hn => by
    obtain ⟨ls, h1, h2, h3⟩ := found_of n (by omega)
    by_cases hl : ls.length < n
    · exact ⟨ls, by omega, h2, fun _ => h3 hl⟩
    · have he : ls.length = n := by omega
      obtain ⟨o, ho⟩ := slot_ex d t ls.length
      cases o with
      | none => exact ⟨ls, by omega, h2, fun _ => ho⟩
      | some r => exact ⟨ls ++ [r], by simp; omega, lead_snoc h2 ho, fun h => by simp at h; omega⟩
theorem found_ex (d : DiskM) (t : Int) : ∃ ls, FoundM d t ls := found_of 8 (Nat.le_refl _)
theorem lead_one {d : DiskM} {t : Int} {ls ms : List RecM} (h : LeadM d t ls) (k : LeadM d t ms) (hl : ls.length = ms.length) : ls = ms :=
  List.ext_getElem hl fun j h1 h2 => Option.some.inj (slot_one (h j h1) (k j h2))
theorem found_one {d : DiskM} {t : Int} {ls ms : List RecM} (h : FoundM d t ls) (k : FoundM d t ms) : ls = ms := by
  have hle : ∀ {xs ys : List RecM}, FoundM d t xs → FoundM d t ys → ¬ xs.length < ys.length := fun {xs ys} ha hb hlt => by
    have h1 := ha.2.2 (by have := hb.1; omega)
    have h2 := hb.2.1 xs.length hlt
    cases slot_one h1 h2
  exact lead_one h.2.1 k.2.1 (by have := hle h k; have := hle k h; omega)
/-- Where a slot has none, the list of what is found ends there. -/
theorem found_stop {d : DiskM} {t : Int} {ls : List RecM} {k : Nat} (h : FoundM d t ls) (hk : k ≤ ls.length) (hn : SlotM d t k none) : k = ls.length := by
  refine Classical.byContradiction fun c => ?_
  cases slot_one hn (h.2.1 k (by omega))
theorem found_some {d : DiskM} {t : Int} {ls : List RecM} {k : Nat} {r : RecM} (h : FoundM d t ls) (hk : k ≤ ls.length) (h8 : k < 8) (hr : SlotM d t k (some r)) : ∃ hl : k < ls.length, ls[k] = r := by
  have hl : k < ls.length := by
    refine Classical.byContradiction fun c => ?_
    have e : k = ls.length := by omega
    subst e
    cases slot_one (h.2.2 h8) hr
  exact ⟨hl, Option.some.inj (slot_one (h.2.1 k hl) hr)⟩
end Go.Proofs.YtgjlhokakcdpbaaGreatDoor
