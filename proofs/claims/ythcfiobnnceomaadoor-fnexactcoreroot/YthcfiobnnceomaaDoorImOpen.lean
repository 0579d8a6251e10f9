/-
  impl's sets by name: a map from names to boxes that hold a set each; bookOpen, and a set by itself.
-/
import Derived.Test.YthcfiobnnceomaaDoorSpecOk
import Derived.Maps.OwnSet
set_option maxRecDepth 100000
namespace Go.Proofs.YthcfiobnnceomaaDoor
open Go.ChangeShapes Go.WideShapes Go.ChangeAt Go.RowKit Go.Proofs.Palim Go.Maps

theorem all8 (p : Nat → Prop) (h0 : p 0) (h1 : p 1) (h2 : p 2) (h3 : p 3) (h4 : p 4) (h5 : p 5) (h6 : p 6) (h7 : p 7) (k : Nat) (h : k < 8) : p k := by
  match k, h with
  | 0, _ => exact h0
  | 1, _ => exact h1
  | 2, _ => exact h2
  | 3, _ => exact h3
  | 4, _ => exact h4
  | 5, _ => exact h5
  | 6, _ => exact h6
  | 7, _ => exact h7
/-- How a pointer to a box reads; and nil. -/
def ptrE : Value → Option (DataW Unit × List MemPlace)
  | .pointer none => some (.lit (.bool false), [])
  | .pointer (some ⟨b, 0, none⟩) => some (.lit (.int .i64 (b : Int)), [])
  | _ => none
def kL (s : ByteArray) : Lit := .string s.data.toList
def pD (b : Nat) : DataW Unit := .lit (.int .i64 (b : Int))
def nD : DataW Unit := .lit (.bool false)
theorem ptrE_inv {v : Value} {b : Nat} {ps : List MemPlace} (h : ptrE v = some (pD b, ps)) : v = .pointer (some ⟨b, 0, none⟩) := by
  unfold ptrE at h
  split at h
  · simp [pD] at h
  · simp only [pD, Option.some.injEq, Prod.mk.injEq, DataW.lit.injEq, Lit.int.injEq, true_and] at h
    have : _ = b := Int.ofNat.inj h.1
    rw [this]
  · cases h
theorem ptrE_nil {v : Value} {ps : List MemPlace} (h : ptrE v = some (nD, ps)) : v = .pointer none := by
  unfold ptrE at h
  split at h
  · rfl
  · simp [nD] at h
  · cases h
theorem kL_inj {a b : ByteArray} (h : kL a = kL b) : a = b := by
  unfold kL at h
  injection h with h
  cases a; cases b
  simp only [ByteArray.mk.injEq]
  exact Array.toList_inj.1 h
theorem kL_key (s : ByteArray) : WideAt.IsKeyLit (kL s) := by simp [kL, WideAt.IsKeyLit]

/-- Where a name leads. -/
def lookB (L : List (ByteArray × Nat)) (s : ByteArray) : Option Nat := (L.find? (fun p => decide (p.1 = s))).map (·.2)
theorem look_app_new {L : List (ByteArray × Nat)} {s : ByteArray} {b : Nat} (h : lookB L s = none) (t : ByteArray) : lookB (L ++ [(s, b)]) t = if t = s then some b else lookB L t := by
  unfold lookB at h ⊢
  rw [List.find?_append]
  by_cases e : t = s
  · subst e
    have h' : L.find? (fun p => decide (p.1 = t)) = none := by simpa using h
    rw [h']; simp
  · rw [if_neg e]
    have : ([(s, b)].find? fun p => decide (p.1 = t)) = none := by
      simp only [List.find?_cons, List.find?_nil]
      rw [decide_eq_false (fun c => e c.symm)]
    rw [this]; simp
/-- The map m leads from each of these names to its block. -/
def MapB (w : World) (m : Nat) (L : List (ByteArray × Nat)) : Prop :=
  ∃ D, w.ownsMap Tryd.prog 9 ptrE m L.length D ∧ Maps.size D = L.length ∧ ∀ s : ByteArray, s.size ≤ maxLen → Maps.has D (kL s) = (lookB L s).isSome ∧ D.atKey (kL s) nD = ((lookB L s).map pD).getD nD

section
variable {w : World} {m : Nat} {L : List (ByteArray × Nat)}
theorem keyB : Keyed Tryd.prog 9 := string_keyed Tryd.underlying9
theorem keyOfB {s : ByteArray} (h : s.size ≤ maxLen) : keyOf Tryd.prog 9 (.string s) = some (kL s) := WideMaps.keyOf_string_mk (P := Tryd.prog) Tryd.underlying9 h
theorem owns_tight {R : Value → Option (DataW Unit × List MemPlace)} {n : Nat} {D : DataW Unit} (h : w.ownsMap Tryd.prog 9 R m n D) : w.ownsMap Tryd.prog 9 R m (Maps.size D) D := by
  obtain ⟨es, clock, hb, F, hs, rfl⟩ := h
  exact ⟨es, clock, hb, F, by simp [Maps.size, length_sorted], rfl⟩
theorem mapB_made (w : World) : MapB (w.alloc (.map #[] 0)) w.heap.size [] :=
  ⟨.map [], World.ownsMap_made w Tryd.prog 9 ptrE, rfl, fun s _ => ⟨rfl, rfl⟩⟩
theorem MapB.lt (h : MapB w m L) : m < w.heap.size := by obtain ⟨D, ho, _⟩ := h; exact ho.lt
theorem MapB.kept {w' : World} (h : MapB w m L) (hk : w'.heap[m]? = w.heap[m]?) : MapB w' m L := by
  obtain ⟨D, ⟨es, clock, hb, rest⟩, h2⟩ := h
  exact ⟨D, ⟨es, clock, hk.trans hb, rest⟩, h2⟩
theorem MapB.below {w' : World} {B : Nat} (h : MapB w m L) (hb : Below B w w') (hB : m < B) : MapB w' m L := h.kept (hb.block m hB)
theorem MapB.notBox {b : Nat} {vs : List Value} (h : MapB w m L) (hx : Box w b vs) : b ≠ m := by
  rintro rfl
  obtain ⟨D, ⟨es, clock, hb, _⟩, _⟩ := h
  obtain ⟨c, e, hc, _⟩ := hx
  rw [hb] at hc
  cases hc
def lookV (o : Option Nat) : Value := .tuple #[.pointer (o.map fun b => ⟨b, 0, none⟩), .bool o.isSome]
end
theorem below_mapTurned {B : Nat} {w0 w w' : World} {m : Nat} (h : Below B w0 w) (ht : w.mapTurned w' m) (hm : B ≤ m) : Below B w0 w' :=
  h.grown ht.grown (Nat.le_trans hm (by obtain ⟨es, c, _, _, hb, _⟩ := ht; exact Nat.le_of_lt (Array.getElem?_eq_some_iff.1 hb).1)) (fun j hj => by cases hj; exact hm)
theorem box_mapTurned {w w' : World} {m b : Nat} {vs : List Value} (h : Box w b vs) (ht : w.mapTurned w' m) (hb : b ≠ m) : Box w' b vs := h.kept (ht.grown.block b h.lt (fun e => hb (Option.some.inj e)))

/-- The sets by name: each in a box of its own. -/
structure SetsB (w : World) (base m : Nat) (Lb : List (Nat × SetM)) : Prop where
  map : MapB w m (Lb.map fun p => (p.2.name, p.1))
  hm : base ≤ m
  box : ∀ p ∈ Lb, Box w p.1 (kc p.2) ∧ base ≤ p.1
  names : Lb.Pairwise (fun p q => p.2.name ≠ q.2.name)
  apart : Lb.Pairwise (fun p q => p.1 ≠ q.1)
theorem SetsB.below {w w' : World} {base m : Nat} {Lb : List (Nat × SetM)} (h : SetsB w base m Lb) (hb : Below w.heap.size w w') : SetsB w' base m Lb :=
  ⟨h.map.below hb h.map.lt, h.hm, fun p hp => ⟨(h.box p hp).1.below hb (h.box p hp).1.lt, (h.box p hp).2⟩, h.names, h.apart⟩
theorem look_none {Lb : List (Nat × SetM)} {s : ByteArray} (h : ∀ p ∈ Lb, p.2.name ≠ s) : lookB (Lb.map fun p => (p.2.name, p.1)) s = none := by
  unfold lookB
  have : (Lb.map fun p => (p.2.name, p.1)).find? (fun p => decide (p.1 = s)) = none := by
    rw [List.find?_eq_none]
    intro q hq
    obtain ⟨p, hp, rfl⟩ := List.mem_map.1 hq
    simpa using h p hp
  rw [this]; rfl
theorem look_find : ∀ (Lb : List (Nat × SetM)) (s : ByteArray), (lookB (Lb.map fun p => (p.2.name, p.1)) s = none ∧ findM (Lb.map (·.2)) s = none) ∨ ∃ p ∈ Lb, lookB (Lb.map fun p => (p.2.name, p.1)) s = some p.1 ∧ findM (Lb.map (·.2)) s = some p.2 ∧ p.2.name = s
  | [], s => Or.inl ⟨rfl, rfl⟩
  | p :: Lb, s => by
    by_cases h : p.2.name = s
    · exact Or.inr ⟨p, by simp, by simp [lookB, h], by simp [findM, h], h⟩
    · have e1 : lookB ((p :: Lb).map fun p => (p.2.name, p.1)) s = lookB (Lb.map fun p => (p.2.name, p.1)) s := by simp [lookB, List.find?_cons, h]
      have e2 : findM ((p :: Lb).map (·.2)) s = findM (Lb.map (·.2)) s := by simp [findM, List.find?_cons, h]
      rw [e1, e2]
      rcases look_find Lb s with h | ⟨q, hq, h⟩
      · exact Or.inl h
      · exact Or.inr ⟨q, by simp [hq], h⟩

end Go.Proofs.YthcfiobnnceomaaDoor
