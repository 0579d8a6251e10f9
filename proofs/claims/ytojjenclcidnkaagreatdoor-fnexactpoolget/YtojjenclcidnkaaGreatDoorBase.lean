/-
  Texts joined into one.
-/
import Derived.WalkKit
import Derived.ProofKit
import Derived.Below
import Derived.Deep.Draws
import Derived.Deep.AppendLies
import Derived.Laws.OwnMore
import Derived.Laws.Rows
import Derived.Test.YtojjenclcidnkaaGreatDoorRows
import Derived.Lib.Hide
import Derived.Laws.StructEq
import Derived.Laws.Cells
import Derived.Laws.Tables
import Derived.Laws.IdiomStrings
import Derived.Laws.BytesArg
import Derived.Lib.ItoaNum
import Derived.Lib.ItoaMem
import Derived.Lib.ItoaLen
import Derived.WalkSpells
import Derived.WalkSmall
import Derived.Deep.QuietTactic
import Derived.BigQuiet
import Derived.Deep.RegionHeld3
import Derived.Laws.Pointers
import Derived.Deep.CutRange

/-
  Words for memory: slices that read as lists of cells, slices that a call owns, and which blocks a call has turned.
-/
set_option maxRecDepth 100000
namespace Go.Proofs.Palim
open Go Go.RowKit

/-- The slice value v has n elements of sz cells each, which hold xs. -/
def Sl (w : World) (sz : Nat) (v : Value) (n : Nat) (xs : List Value) : Prop :=
  xs.length = n * sz ∧ ∃ A c, v = .slice A n c ∧ n ≤ c ∧ c ≤ maxLen ∧ (n = 0 ∨ ∃ b off, A = some ⟨b, off, none⟩ ∧ ∀ j u, xs[j]? = some u → w.cell? ⟨b, off + j, none⟩ = some u)

theorem Sl.kept {w w' : World} {sz n : Nat} {v : Value} {xs : List Value} (h : Sl w sz v n xs) (hk : ∀ b, v.ownBlock = some b → w'.heap[b]? = w.heap[b]?) : Sl w' sz v n xs := by
  obtain ⟨h1, A, c, rfl, h2, h3, h4⟩ := h
  refine ⟨h1, A, c, rfl, h2, h3, h4.imp id ?_⟩
  rintro ⟨b, off, rfl, hc⟩
  exact ⟨b, off, rfl, fun j u hu => (World.cell?_of_block (hk b rfl)).trans (hc j u hu)⟩
theorem Sl.le {w : World} {sz n : Nat} {v : Value} {xs : List Value} (h : Sl w sz v n xs) : n ≤ maxLen := by
  obtain ⟨_, A, c, _, h2, h3, _⟩ := h; omega
/-- Its block is there, if it has an element. -/
theorem Sl.lt {w : World} {sz n : Nat} {v : Value} {xs : List Value} (h : Sl w sz v n xs) (hn : 0 < n) (hsz : 0 < sz) : ∀ b, v.ownBlock = some b → b < w.heap.size := by
  obtain ⟨h1, A, c, rfl, h2, h3, h4⟩ := h
  obtain ⟨b, off, rfl, hc⟩ := h4.resolve_left (by omega)
  intro b' e
  have e' : b = b' := by simpa [Value.ownBlock] using e
  subst e'
  have hl : 0 < xs.length := by rw [h1]; exact Nat.mul_pos hn hsz
  exact World.block_lt_of_cell? w _ (hc 0 xs[0] (List.getElem?_eq_getElem hl))
/-- A slice that has an element, written out. -/
theorem Sl.form {w : World} {sz n : Nat} {v : Value} {xs : List Value} (h : Sl w sz v n xs) (hn : 0 < n) :
    ∃ b off c, v = .slice (some ⟨b, off, none⟩) n c ∧ n ≤ c ∧ c ≤ maxLen ∧ ∀ j u, xs[j]? = some u → w.cell? ⟨b, off + j, none⟩ = some u := by
  obtain ⟨_, A, c, rfl, h2, h3, h4⟩ := h
  obtain ⟨b, off, rfl, hc⟩ := h4.resolve_left (by omega)
  exact ⟨b, off, c, rfl, h2, h3, hc⟩
theorem Sl.below {w w' : World} {sz n B : Nat} {v : Value} {xs : List Value} (h : Sl w sz v n xs) (hb : Below B w w') (hB : ∀ b, v.ownBlock = some b → b < B) : Sl w' sz v n xs :=
  h.kept fun b e => hb.block b (hB b e)
/-- A slice that has no element reads so in every world. -/
theorem Sl.none_ {w w' : World} {sz : Nat} {v : Value} {xs : List Value} (h : Sl w sz v 0 xs) : Sl w' sz v 0 xs := by
  obtain ⟨h1, A, c, rfl, h2, h3, _⟩ := h
  exact ⟨h1, A, c, rfl, h2, h3, Or.inl rfl⟩

/-- What the call owns reads as it says. -/
theorem sl_of_own {w : World} {base e sz n : Nat} {v : Value} {xs : List Value} (h : w.ownsRow base e sz v n xs) : Sl w sz v n xs := by
  rcases h.2 with ⟨rfl, rfl⟩ | ⟨g, cap, cur, rfl, hb, hg, h1, h2, h3, h4⟩
  · exact ⟨h.1, none, 0, rfl, Nat.le_refl _, Nat.zero_le _, Or.inl rfl⟩
  · refine ⟨h.1, _, cap, rfl, h1, h2, Or.inr ⟨g, 0, rfl, fun j u hu => ?_⟩⟩
    have := h.cells (g := g) rfl j u hu
    have ha : (⟨g, 0, none⟩ : Addr).add j = ⟨g, 0 + j, none⟩ := by unfold Addr.add; split <;> simp_all
    rwa [ha] at this
theorem own_kept {w w' : World} {base e sz n : Nat} {v : Value} {xs : List Value} (h : w.ownsRow base e sz v n xs) (hk : ∀ b, v.ownBlock = some b → w'.heap[b]? = w.heap[b]?) : w'.ownsRow base e sz v n xs := by
  refine ⟨h.1, ?_⟩
  rcases h.2 with hn | ⟨g, cap, cur, rfl, hb, hg, rest⟩
  · exact .inl hn
  · exact .inr ⟨g, cap, cur, rfl, hb, by rw [hk g rfl]; exact hg, rest⟩
theorem own_base {w : World} {base base' e sz n : Nat} {v : Value} {xs : List Value} (h : w.ownsRow base e sz v n xs) (hb : base' ≤ base) : w.ownsRow base' e sz v n xs := by
  refine ⟨h.1, h.2.imp id ?_⟩
  rintro ⟨g, cap, cur, rfl, hg, rest⟩
  exact ⟨g, cap, cur, rfl, Nat.le_trans hb hg, rest⟩

/-- The world w' is w but for the blocks of S and new ones. -/
structure Turned (S : Nat → Prop) (w w' : World) : Prop where
  os : w'.os = w.os
  tape : w'.tape = w.tape
  output : w'.output = w.output
  size : w.heap.size ≤ w'.heap.size
  block : ∀ k, k < w.heap.size → ¬ S k → w'.heap[k]? = w.heap[k]?
theorem Turned.refl (S : Nat → Prop) (w : World) : Turned S w w := ⟨rfl, rfl, rfl, Nat.le_refl _, fun _ _ _ => rfl⟩
theorem Turned.trans {S : Nat → Prop} {a b c : World} (h : Turned S a b) (k : Turned S b c) : Turned S a c :=
  ⟨k.os.trans h.os, k.tape.trans h.tape, k.output.trans h.output, Nat.le_trans h.size k.size, fun i hi hn => (k.block i (Nat.lt_of_lt_of_le hi h.size) hn).trans (h.block i hi hn)⟩
theorem Turned.mono {S T : Nat → Prop} {a b : World} (h : Turned S a b) (hST : ∀ k, k < a.heap.size → S k → T k) : Turned T a b :=
  ⟨h.os, h.tape, h.output, h.size, fun i hi hn => h.block i hi (fun hs => hn (hST i hi hs))⟩
theorem turned_of_below {S : Nat → Prop} {a b : World} (h : Below a.heap.size a b) : Turned S a b := ⟨h.os, h.tape, h.output, h.size, fun i hi _ => h.block i hi⟩
theorem Turned.below {S : Nat → Prop} {B : Nat} {a b : World} (h : Turned S a b) (hB : ∀ k, k < B → k < a.heap.size → ¬ S k) (hs : B ≤ a.heap.size) : Below B a b :=
  ⟨h.os, h.tape, h.output, h.size, fun k hk => h.block k (Nat.lt_of_lt_of_le hk hs) (hB k hk (Nat.lt_of_lt_of_le hk hs))⟩
theorem turned_setCell {S : Nat → Prop} {a w : World} (h : Turned S a w) {p : Addr} (hp : S p.block) (u : Value) : Turned S a (w.setCell p u) :=
  ⟨h.os, h.tape, h.output, by simpa [World.setCell] using h.size, fun i hi hn => (Below.heap_setCell w p u i (fun e => hn (e ▸ hp))).trans (h.block i hi hn)⟩

/-- A store into a cell that the call owns. -/
theorem own_setN {w : World} {base e sz g n cap : Nat} {xs : List Value} (h : w.ownsRow base e sz (.slice (some ⟨g, 0, none⟩) n cap) n xs) (k : Nat) (u : Value) :
    (w.setCell ⟨g, k, none⟩ u).ownsRow base e sz (.slice (some ⟨g, 0, none⟩) n cap) n (xs.set k u) := by
  refine ⟨by rw [List.length_set]; exact h.1, .inr ?_⟩
  rcases h.2 with ⟨hv, _⟩ | ⟨g', cap', cur, hv, hb, hg, h1, h2, h3, h4⟩
  · cases hv
  · injection hv with e1 e2 e3
    injection e1 with e1
    injection e1 with e1
    subst e1 e3
    refine ⟨g, cap, cur.setIfInBounds k u, rfl, hb, ?_, h1, h2, by rw [Array.size_setIfInBounds]; exact h3, ?_⟩
    · show (w.setCell ⟨g, k, none⟩ u).heap[g]? = _
      simp [World.setCell, Array.getElem?_modify, hg]
    · rw [Array.toList_setIfInBounds, List.take_set, h4]
theorem own_set {w : World} {base e g n cap : Nat} {xs : List Value} (h : w.ownsRow base e 1 (.slice (some ⟨g, 0, none⟩) n cap) n xs) (k : Nat) (u : Value) :
    (w.setCell ⟨g, k, none⟩ u).ownsRow base e 1 (.slice (some ⟨g, 0, none⟩) n cap) n (xs.set k u) := own_setN h k u
/-- An element's cell, and that it may be written. -/
theorem own_at {w : World} {base e sz g n cap : Nat} {xs : List Value} (h : w.ownsRow base e sz (.slice (some ⟨g, 0, none⟩) n cap) n xs) (k : Nat) (hk : k < n * sz) :
    (∃ u, xs[k]? = some u ∧ w.cell? ⟨g, k, none⟩ = some u) ∧ w.frozen? ⟨g, k, none⟩ = false ∧ base ≤ g ∧ g < w.heap.size := by
  have hl : k < xs.length := by rw [h.1]; exact hk
  have hc := h.cells (g := g) rfl k xs[k] (List.getElem?_eq_getElem hl)
  have ha : (⟨g, 0, none⟩ : Addr).add k = ⟨g, k, none⟩ := by unfold Addr.add; split <;> simp_all
  rw [ha] at hc
  have hlt := h.lt g rfl
  refine ⟨⟨_, List.getElem?_eq_getElem hl, hc⟩, ?_, hlt.1, hlt.2⟩
  rcases h.2 with ⟨hv, _⟩ | ⟨g', cap', cur, hv, hb, hg, _⟩
  · cases hv
  · injection hv with e1
    injection e1 with e1
    injection e1 with e1
    subst e1
    simp [World.frozen?, hg]

/-- The cells of a list of strings. -/
def scs (ss : List ByteArray) : List Value := ss.map Value.string
theorem scs_length (ss : List ByteArray) : (scs ss).length = ss.length := by simp [scs]
theorem scs_at (ss : List ByteArray) (k : Nat) (h : k < ss.length) : (scs ss)[k]? = some (.string ss[k]) := by simp [scs, h]
theorem scs_snoc (a : List ByteArray) (s : ByteArray) : scs (a ++ [s]) = scs a ++ [.string s] := by simp [scs]
theorem take_set_succ {α : Type} (xs : List α) (k : Nat) (u : α) (h : k < xs.length) : (xs.set k u).take (k + 1) = xs.take k ++ [u] := by
  rw [List.take_succ_eq_append_getElem (by rw [List.length_set]; exact h), List.take_set_of_le (Nat.le_refl _), List.getElem_set_self]
theorem take_set3 {α : Type} (xs : List α) (k : Nat) (a b c : α) (h : k * 3 + 2 < xs.length) : (((xs.set (k * 3) a).set (k * 3 + 1) b).set (k * 3 + 2) c).take ((k + 1) * 3) = xs.take (k * 3) ++ [a, b, c] := by
  rw [show (k + 1) * 3 = k * 3 + 2 + 1 by omega, take_set_succ _ _ _ (by simp; omega), take_set_succ _ _ _ (by simp; omega), take_set_succ _ _ _ (by omega)]
  simp
end Go.Proofs.Palim

/-
  Boxes: blocks of a call's own that hold a variable, cell by cell.
-/
set_option maxRecDepth 100000
namespace Go.Proofs.Palim
open Go Go.RowKit

/-- Block b holds these cells, and they may be written. -/
def Box (w : World) (b : Nat) (vs : List Value) : Prop := ∃ c e, w.heap[b]? = some (.cells c e (0, 0)) ∧ c.toList = vs
theorem Box.cell {w : World} {b : Nat} {vs : List Value} (h : Box w b vs) (k : Nat) {u : Value} (hu : vs[k]? = some u) : w.cell? ⟨b, k, none⟩ = some u := by
  obtain ⟨c, e, hb, rfl⟩ := h
  simp only [World.cell?, hb]
  simpa using hu
theorem Box.open_ {w : World} {b : Nat} {vs : List Value} (h : Box w b vs) (k : Nat) : w.frozen? ⟨b, k, none⟩ = false := by
  obtain ⟨c, e, hb, rfl⟩ := h
  simp [World.frozen?, hb]
theorem Box.lt {w : World} {b : Nat} {vs : List Value} (h : Box w b vs) : b < w.heap.size := by
  obtain ⟨c, e, hb, _⟩ := h
  exact (Array.getElem?_eq_some_iff.1 hb).1
theorem Box.kept {w w' : World} {b : Nat} {vs : List Value} (h : Box w b vs) (hk : w'.heap[b]? = w.heap[b]?) : Box w' b vs := by
  obtain ⟨c, e, hb, hv⟩ := h
  exact ⟨c, e, hk.trans hb, hv⟩
theorem Box.below {w w' : World} {b B : Nat} {vs : List Value} (h : Box w b vs) (hb : Below B w w') (hB : b < B) : Box w' b vs := h.kept (hb.block b hB)
theorem Box.turned {S : Nat → Prop} {w w' : World} {b : Nat} {vs : List Value} (h : Box w b vs) (ht : Turned S w w') (hS : ¬ S b) : Box w' b vs := h.kept (ht.block b h.lt hS)
theorem Box.other {w : World} {b : Nat} {vs : List Value} (h : Box w b vs) {p : Addr} (hp : b ≠ p.block) (u : Value) : Box (w.setCell p u) b vs := h.kept (Below.heap_setCell w p u b hp)
theorem Box.set {w : World} {b : Nat} {vs : List Value} (h : Box w b vs) (k : Nat) (u : Value) : Box (w.setCell ⟨b, k, none⟩ u) b (vs.set k u) := by
  obtain ⟨c, e, hb, rfl⟩ := h
  refine ⟨c.setIfInBounds k u, e, ?_, by rw [Array.toList_setIfInBounds]⟩
  simp [World.setCell, Array.getElem?_modify, hb]
theorem Box.drewN {w : World} {b : Nat} {vs : List Value} (h : Box w b vs) (q : Nat) : Box (w.drewN q) b vs := h
theorem Box.drew {w : World} {b : Nat} {vs : List Value} (h : Box w b vs) : Box w.drew b vs := h
theorem box_new (w : World) (c : Array Value) (e : Nat) : Box (w.alloc (.cells c e)) w.heap.size c.toList := ⟨c, e, by show (w.heap.push (.cells c e))[w.heap.size]? = _; simp, rfl⟩
theorem Box.alloc {w : World} {b : Nat} {vs : List Value} (h : Box w b vs) (o : Obj) : Box (w.alloc o) b vs := h.kept (Below.heap_alloc w o b h.lt)
/-- Two and three cells read out. -/
theorem Box.two {w : World} {b : Nat} {x y : Value} (h : Box w b [x, y]) : w.cell? ⟨b, 0, none⟩ = some x ∧ w.cell? ⟨b, 1, none⟩ = some y := ⟨h.cell 0 rfl, h.cell 1 rfl⟩
theorem Box.three {w : World} {b : Nat} {x y z : Value} (h : Box w b [x, y, z]) : w.cell? ⟨b, 0, none⟩ = some x ∧ w.cell? ⟨b, 1, none⟩ = some y ∧ w.cell? ⟨b, 2, none⟩ = some z := ⟨h.cell 0 rfl, h.cell 1 rfl, h.cell 2 rfl⟩
theorem box1 (w : World) (c0 : Array Value) (e0 : Nat) : Box (w.alloc (.cells c0 e0)) w.heap.size c0.toList ∧ (w.alloc (.cells c0 e0)).heap.size = w.heap.size + 1 ∧ Below w.heap.size w (w.alloc (.cells c0 e0)) :=
  ⟨box_new _ _ _, by simp, (Below.refl _ _).alloc (Nat.le_refl _) _⟩
theorem box2 (w : World) (c0 c1 : Array Value) (e0 e1 : Nat) : Box ((w.alloc (.cells c0 e0)).alloc (.cells c1 e1)) w.heap.size c0.toList ∧ Box ((w.alloc (.cells c0 e0)).alloc (.cells c1 e1)) (w.heap.size + 1) c1.toList ∧ ((w.alloc (.cells c0 e0)).alloc (.cells c1 e1)).heap.size = w.heap.size + 2 ∧ Below w.heap.size w ((w.alloc (.cells c0 e0)).alloc (.cells c1 e1)) :=
  ⟨(box_new _ _ _).alloc _, by simpa using box_new (w.alloc (.cells c0 e0)) c1 e1, by simp, ((Below.refl _ _).alloc (Nat.le_refl _) _).alloc (by simp) _⟩
theorem box3 (w : World) (c0 c1 c2 : Array Value) (e0 e1 e2 : Nat) : Box (((w.alloc (.cells c0 e0)).alloc (.cells c1 e1)).alloc (.cells c2 e2)) w.heap.size c0.toList ∧ Box (((w.alloc (.cells c0 e0)).alloc (.cells c1 e1)).alloc (.cells c2 e2)) (w.heap.size + 1) c1.toList ∧ Box (((w.alloc (.cells c0 e0)).alloc (.cells c1 e1)).alloc (.cells c2 e2)) (w.heap.size + 1 + 1) c2.toList ∧ (((w.alloc (.cells c0 e0)).alloc (.cells c1 e1)).alloc (.cells c2 e2)).heap.size = w.heap.size + 3 ∧ Below w.heap.size w (((w.alloc (.cells c0 e0)).alloc (.cells c1 e1)).alloc (.cells c2 e2)) :=
  ⟨(box2 w c0 c1 e0 e1).1.alloc _, (box2 w c0 c1 e0 e1).2.1.alloc _, by simpa using box_new ((w.alloc (.cells c0 e0)).alloc (.cells c1 e1)) c2 e2, by simp, (box2 w c0 c1 e0 e1).2.2.2.alloc (by simp; omega) _⟩
/-- Two values whose blocks are not one. -/
def Apart (a b : Value) : Prop := ∀ g, a.ownBlock = some g → b.ownBlock ≠ some g
theorem Apart.symm {a b : Value} (h : Apart a b) : Apart b a := fun g e e' => h g e' e
end Go.Proofs.Palim

/-
  Pointers as values: the laws' helpers on them, and which of them are valid.
-/
set_option maxRecDepth 100000
namespace Go.Proofs.YtojjenclcidnkaaGreatDoor
open Go.ChangeShapes Go.WideShapes Go.ChangeAt Go.RowKit Go.Proofs.Palim

structure PtrM where
  at_ : Int
  sum : Int
  birth : Int
/-- A pointer's value. -/
abbrev pv (p : PtrM) : Value := .agg #[.int .i64 p.at_, .int .i64 p.sum, .int .i64 p.birth]
/-- Its numbers are ints. -/
structure PtrFits (p : PtrM) : Prop where
  a : -9223372036854775808 ≤ p.at_ ∧ p.at_ ≤ 9223372036854775807
  s : -9223372036854775808 ≤ p.sum ∧ p.sum ≤ 9223372036854775807
  b : -9223372036854775808 ≤ p.birth ∧ p.birth ≤ 9223372036854775807
def NullM (p : PtrM) : Prop := p.at_ = 0 ∧ p.sum = 0 ∧ p.birth = 0
instance (p : PtrM) : Decidable (NullM p) := by unfold NullM; infer_instance
def GoodM (p : PtrM) : Prop := 1 ≤ p.at_ ∧ p.at_ < 120 ∧ 0 ≤ p.sum ∧ p.sum < 65521 ∧ 0 ≤ p.birth ∧ p.birth ≤ 1000000
instance (p : PtrM) : Decidable (GoodM p) := by unfold GoodM; infer_instance
def PtrOkM (p : PtrM) : Prop := NullM p ∨ GoodM p
instance (p : PtrM) : Decidable (PtrOkM p) := by unfold PtrOkM; infer_instance

theorem ret_b {a b : Bool} (h : a = b) : Ending.returned (.bool a) = Ending.returned (.bool b) := by rw [h]
theorem dec_b {a b : Bool} (h : a = true ↔ b = true) : a = b := by cases a <;> cases b <;> simp_all

set_option maxHeartbeats 400000 in
theorem toPtr_any (p : PtrM) (w : World) :
    Calls Tryz.prog 102 #[pv p] w fun e w' => e = .returned (pv p) ∧ Below w.heap.size w w' := by
  obtain ⟨a, s, b⟩ := p
  go_enter Tryz.func102, Tryz.ntmps102
  go_wp2
  refine bodyPost_ret (v := pv ⟨a, s, b⟩) (by simp [results, Tryz.results102, go_sem, pv]) rfl ⟨rfl, ?_⟩
  exact (((Below.refl _ w).alloc (Nat.le_refl _) _).alloc (by simp) _).alloc (by simp; omega) _

set_option maxHeartbeats 400000 in
theorem eqPtr_any (p q : PtrM) (w : World) :
    Calls Tryz.prog 86 #[pv p, pv q] w fun e w' => e = .returned (.bool (decide (p.at_ = q.at_ ∧ p.sum = q.sum ∧ p.birth = q.birth))) ∧ Below w.heap.size w w' := by
  obtain ⟨a, s, b⟩ := p
  obtain ⟨c, t, d⟩ := q
  have fin : ∀ r : Bool, (r = true ↔ (a = c ∧ s = t ∧ b = d)) → Ending.returned (.bool r) = Ending.returned (.bool (decide (a = c ∧ s = t ∧ b = d))) := fun r h => ret_b (dec_b (by rw [h, decide_eq_true_eq]))
  by_cases h1 : a = c
  · by_cases h2 : s = t
    · by_cases h3 : b = d
      all_goals
        go_enter Tryz.func86, Tryz.ntmps86
        go_wp2
        go_ret
        exact ⟨fin _ (by simp [h1, h2, h3]), ((Below.refl _ _).alloc (Nat.le_refl _) _).alloc (by simp) _⟩
    · go_enter Tryz.func86, Tryz.ntmps86
      go_wp2
      go_ret
      exact ⟨fin _ (by simp [h2]), ((Below.refl _ _).alloc (Nat.le_refl _) _).alloc (by simp) _⟩
  · go_enter Tryz.func86, Tryz.ntmps86
    go_wp2
    go_ret
    exact ⟨fin _ (by simp [h1]), ((Below.refl _ _).alloc (Nat.le_refl _) _).alloc (by simp) _⟩
theorem eqPtr_same (p : PtrM) (w : World) :
    Calls Tryz.prog 86 #[pv p, pv p] w fun e w' => e = .returned (.bool true) ∧ Below w.heap.size w w' := by
  refine (eqPtr_any p p w).mono ?_
  rintro e w' ⟨rfl, hb⟩
  exact ⟨by simp, hb⟩

set_option maxHeartbeats 400000 in
theorem implPtrOk_any (p : PtrM) (w : World) :
    Calls Tryz.prog 139 #[pv p] w fun e w' => e = .returned (.bool (decide (PtrOkM p))) ∧ Below w.heap.size w w' := by
  obtain ⟨a, s, b⟩ := p
  by_cases h1 : a = 0
  all_goals by_cases h2 : s = 0
  all_goals by_cases h3 : b = 0
  all_goals go_enter Tryz.func139, Tryz.ntmps139
  all_goals go_wp2
  all_goals
    go_ret
    exact ⟨ret_b (dec_b (by first | (simp only [decide_eq_true_eq, Bool.false_eq_true, false_iff, true_iff] at *; unfold PtrOkM NullM GoodM; simp only; omega) | (simp [PtrOkM, NullM, GoodM]; done) | (simp [PtrOkM, NullM, GoodM]; omega))), (Below.refl _ _).alloc (Nat.le_refl _) _⟩

set_option maxHeartbeats 400000 in
theorem specPtrOk_any (p : PtrM) (w : World) :
    Calls Tryz.prog 53 #[pv p] w fun e w' => e = .returned (.bool (decide (PtrOkM p))) ∧ Below w.heap.size w w' := by
  obtain ⟨a, s, b⟩ := p
  by_cases h1 : a = 0
  all_goals by_cases h2 : s = 0
  all_goals by_cases h3 : b = 0
  all_goals go_enter Tryz.func53, Tryz.ntmps53
  all_goals go_wp2
  all_goals
    go_ret
    exact ⟨ret_b (dec_b (by first | (simp only [decide_eq_true_eq, Bool.false_eq_true, false_iff, true_iff, beq_eq_false_iff_ne, ne_eq] at *; unfold PtrOkM NullM GoodM; simp only; omega) | (simp [PtrOkM, NullM, GoodM]; done) | (simp [PtrOkM, NullM, GoodM]; omega))), (Below.refl _ _).alloc (Nat.le_refl _) _⟩
theorem implPtrOk_is (p : PtrM) (w : World) (r : Bool) (hr : decide (PtrOkM p) = r) :
    Calls Tryz.prog 139 #[pv p] w fun e w' => e = .returned (.bool r) ∧ Below w.heap.size w w' := hr ▸ implPtrOk_any p w
theorem specPtrOk_is (p : PtrM) (w : World) (r : Bool) (hr : decide (PtrOkM p) = r) :
    Calls Tryz.prog 53 #[pv p] w fun e w' => e = .returned (.bool r) ∧ Below w.heap.size w w' := hr ▸ specPtrOk_any p w
end Go.Proofs.YtojjenclcidnkaaGreatDoor

/-
  Aggregates of many cells: loads and stores of a whole box or of a row's element, told by the list of their cells.
-/
set_option maxRecDepth 100000
namespace Go.Proofs.Palim
open Go Go.RowKit

/-- A type of k cells that is an aggregate. -/
structure Agg (P : Program) (ty : TypeId) (k : Nat) : Prop where
  agg : ∀ w, (isAgg ty).run P w = .ok true w
  size : ∀ w, (Go.sizeOf ty).run P w = .ok k w

section
variable {P : Program} {w : World}
theorem run_loadVar_cs {ty : TypeId} {k b off : Nat} (hA : Agg P ty k) (cs : List Value) (hk : cs.length = k) (hc : ∀ j u, cs[j]? = some u → w.cell? ⟨b, off + j, none⟩ = some u) :
    (loadVar ty ⟨b, off, none⟩).run P w = .ok (.agg cs.toArray) w := by
  subst hk
  have hl := run_loadCells_list (P := P) w ⟨b, off, none⟩ cs (fun j v hv => by
    have hadd : (⟨b, off, none⟩ : Addr).add j = ⟨b, off + j, none⟩ := by unfold Addr.add; split <;> simp_all
    rw [hadd]; exact hc j v hv)
  simp [loadVar, Sem.run_bind, hA.agg, hA.size, hl]
theorem exec_load_cs {ev : Operand → Value} {o : Oper} {ty : TypeId} (x : Operand) (ho : o.op = .load ty x) {k b off : Nat} (hA : Agg P ty k) (hx : ev x = .pointer (some ⟨b, off, none⟩)) (cs : List Value) (hk : cs.length = k) (hc : ∀ j u, cs[j]? = some u → w.cell? ⟨b, off + j, none⟩ = some u) :
    (execOp ev o).run P w = .ok (.value (.agg cs.toArray)) w := by
  unfold execOp
  simp only [ho, hx, Instr.loadAt, Instr.sureAddr, Sem.run_bind, Sem.run_pure, Result.andThen_ok, run_loadVar_cs hA cs hk hc]
theorem wp_load_cs {o : Oper} {a : Act} {K : Act → World → Prop} {Q : Exit → Act → World → Prop} {ty : TypeId} (x : Operand) (ho : o.op = .load ty x) {k b off : Nat} (hA : Agg P ty k)
    (hx : a.eval x = .pointer (some ⟨b, off, none⟩)) (cs : List Value) (hk : cs.length = k) (hc : ∀ j u, cs[j]? = some u → w.cell? ⟨b, off + j, none⟩ = some u)
    (h : K (a.put o.dst (.agg cs.toArray)) w) : o.wp P a w K Q := by
  unfold Oper.wp execOp
  simp only [ho, hx, Instr.loadAt, Instr.sureAddr, Sem.run_bind, Sem.run_pure, Result.andThen_ok, run_loadVar_cs hA cs hk hc]
  exact h
theorem wpList_load_cs {ops : Array Oper} {rest : List Oper} {o : Oper} {a : Act} {Q : Exit → Act → World → Prop} (hgd : o.guard = none) {ty : TypeId} (x : Operand) (ho : o.op = .load ty x) {k b off : Nat} (hA : Agg P ty k)
    (hx : a.eval x = .pointer (some ⟨b, off, none⟩)) (cs : List Value) (hk : cs.length = k) (hc : ∀ j u, cs[j]? = some u → w.cell? ⟨b, off + j, none⟩ = some u)
    (h : wpList P ops Q rest (a.put o.dst (.agg cs.toArray)) w) : wpList P ops Q (o :: rest) a w :=
  wpList_plain hgd fun _ hK => wp_load_cs x ho hA hx cs hk hc (hK _ _ h)
theorem Box.cells {b : Nat} {vs : List Value} (h : Box w b vs) : ∀ j u, vs[j]? = some u → w.cell? ⟨b, 0 + j, none⟩ = some u := fun j u hu => by rw [Nat.zero_add]; exact h.cell j hu
theorem wpList_load_box {ops : Array Oper} {rest : List Oper} {o : Oper} {a : Act} {Q : Exit → Act → World → Prop} (hgd : o.guard = none) {ty : TypeId} (x : Operand) (ho : o.op = .load ty x) {k b : Nat} (hA : Agg P ty k)
    (hx : a.eval x = .pointer (some ⟨b, 0, none⟩)) (cs : List Value) (hk : cs.length = k) (hB : Box w b cs)
    (h : wpList P ops Q rest (a.put o.dst (.agg cs.toArray)) w) : wpList P ops Q (o :: rest) a w :=
  wpList_load_cs hgd x ho hA hx cs hk hB.cells h

/-- Cells written one behind another. -/
def putC (w : World) (b off : Nat) : List Value → World
  | [] => w
  | v :: r => putC (w.setCell ⟨b, off, none⟩ v) b (off + 1) r
theorem putC_size : ∀ (vs : List Value) (w : World) (b off : Nat), (putC w b off vs).heap.size = w.heap.size
  | [], _, _, _ => rfl
  | v :: r, w, b, off => by rw [putC, putC_size r]; simp [World.setCell]
theorem putC_heap : ∀ (vs : List Value) (w : World) (b off k : Nat), k ≠ b → (putC w b off vs).heap[k]? = w.heap[k]?
  | [], _, _, _, _, _ => rfl
  | v :: r, w, b, off, k, h => by rw [putC, putC_heap r _ b (off + 1) k h]; exact Below.heap_setCell _ _ _ _ h
theorem putC_same : ∀ (vs : List Value) (w : World) (b off : Nat), (putC w b off vs).os = w.os ∧ (putC w b off vs).tape = w.tape ∧ (putC w b off vs).output = w.output
  | [], _, _, _ => ⟨rfl, rfl, rfl⟩
  | v :: r, w, b, off => by rw [putC]; exact putC_same r _ b (off + 1)
theorem putC_below {B : Nat} {w0 : World} (h : Below B w0 w) (b off : Nat) (hb : B ≤ b) (vs : List Value) : Below B w0 (putC w b off vs) :=
  ⟨(putC_same vs w b off).1.trans h.os, (putC_same vs w b off).2.1.trans h.tape, (putC_same vs w b off).2.2.trans h.output, by rw [putC_size]; exact h.size, fun k hk => (putC_heap vs w b off k (by omega)).trans (h.block k hk)⟩
theorem putC_turned {S : Nat → Prop} {w0 : World} (h : Turned S w0 w) (b off : Nat) (hb : S b) (vs : List Value) : Turned S w0 (putC w b off vs) :=
  ⟨(putC_same vs w b off).1.trans h.os, (putC_same vs w b off).2.1.trans h.tape, (putC_same vs w b off).2.2.trans h.output, by rw [putC_size]; exact h.size, fun k hk hn => (putC_heap vs w b off k (fun e => hn (e ▸ hb))).trans (h.block k hk hn)⟩
theorem set_mid {α : Type} (a : List α) (x v : α) (b : List α) (k : Nat) (h : a.length = k) : (a ++ x :: b).set k v = a ++ v :: b := by subst h; simp
theorem Box.putC_mid : ∀ (vs : List Value) (w : World) (b : Nat) (p old q : List Value), Box w b (p ++ old ++ q) → old.length = vs.length → Box (putC w b p.length vs) b (p ++ vs ++ q)
  | [], w, b, p, old, q, h, hl => by
    obtain rfl : old = [] := List.length_eq_zero_iff.1 hl
    exact h
  | v :: r, w, b, p, old, q, h, hl => by
    match old, hl with
    | x :: old', hl =>
      have h1 : Box (w.setCell ⟨b, p.length, none⟩ v) b (p ++ [v] ++ old' ++ q) := by
        have := h.set p.length v
        rw [List.append_assoc, List.cons_append, set_mid p x v _ _ rfl] at this
        simpa using this
      have h2 := Box.putC_mid r _ b (p ++ [v]) old' q h1 (by simpa using hl)
      rw [putC]
      simpa using h2
theorem Box.putAll {b : Nat} {old : List Value} (h : Box w b old) (vs : List Value) (hl : old.length = vs.length) : Box (putC w b 0 vs) b vs := by
  have := Box.putC_mid vs w b [] old [] (by simpa using h) hl
  simpa using this
theorem run_storeCells_put : ∀ (vs : List Value) (w : World) (b off i : Nat) , (∀ v ∈ vs, v.oneCell' = true) → (∀ j, j < vs.length → (∃ u, w.cell? ⟨b, off + i + j, none⟩ = some u) ∧ w.frozen? ⟨b, off + i + j, none⟩ = false) →
    (storeCells ⟨b, off, none⟩ vs i).run P w = .ok () (putC w b (off + i) vs)
  | [], w, b, off, i, _, _ => by simp [storeCells, putC]
  | v :: r, w, b, off, i, h1, h2 => by
    obtain ⟨⟨u, hu⟩, hf⟩ := h2 0 (by simp)
    rw [Nat.add_zero] at hu hf
    have hadd : (⟨b, off, none⟩ : Addr).add i = ⟨b, off + i, none⟩ := by unfold Addr.add; split <;> simp_all
    rw [storeCells, Sem.run_bind, hadd, run_store P w _ v _ (h1 v (List.mem_cons_self ..))]
    simp only [hu, hf, Bool.false_eq_true, if_false, Result.andThen_ok]
    rw [putC]
    refine run_storeCells_put r (w.setCell ⟨b, off + i, none⟩ v) b off (i + 1) (fun x hx => h1 x (List.mem_cons_of_mem _ hx)) (fun j hj => ?_)
    obtain ⟨⟨u', hu'⟩, hf'⟩ := h2 (j + 1) (by simp; omega)
    have e : off + i + (j + 1) = off + (i + 1) + j := by omega
    rw [e] at hu' hf'
    refine ⟨?_, ?_⟩
    · unfold World.cell? at hu' ⊢
      simp only [World.setCell, Array.getElem?_modify, if_true, Option.isSome_none, Bool.false_eq_true, if_false] at hu' ⊢
      cases hh : w.heap[b]? with
      | none => rw [hh] at hu'; cases hu'
      | some o =>
        rw [hh] at hu'
        cases o with
        | cells cs t fr =>
          simp only [Option.map_some] at hu' ⊢
          have hlt : off + (i + 1) + j < cs.size := (Array.getElem?_eq_some_iff.1 hu').1
          exact ⟨_, Array.getElem?_eq_getElem (by simpa using hlt)⟩
        | _ => cases hu'
    · unfold World.frozen? at hf' ⊢
      simp only [World.setCell, Array.getElem?_modify, if_true]
      cases hh : w.heap[b]? with
      | none => rfl
      | some o =>
        simp only [hh] at hf'
        cases o <;> simp_all
theorem Box.may {b : Nat} {old : List Value} (h : Box w b old) (off k : Nat) (hl : off + k ≤ old.length) : ∀ j, j < k → (∃ u, w.cell? ⟨b, off + 0 + j, none⟩ = some u) ∧ w.frozen? ⟨b, off + 0 + j, none⟩ = false :=
  fun j hj => ⟨⟨_, h.cell (off + 0 + j) (List.getElem?_eq_getElem (by omega))⟩, h.open_ _⟩
theorem wp_store_cs {o : Oper} {a : Act} {K : Act → World → Prop} {Q : Exit → Act → World → Prop} {ty : TypeId} (x y : Operand) (ho : o.op = .store ty x y) (hd : o.dst = none) {k b off : Nat} (hA : Agg P ty k)
    (hx : a.eval x = .pointer (some ⟨b, off, none⟩)) (vs : List Value) (hy : a.eval y = .agg vs.toArray) (hk : vs.length = k) (h1 : ∀ v ∈ vs, v.oneCell' = true)
    (hm : ∀ j, j < vs.length → (∃ u, w.cell? ⟨b, off + 0 + j, none⟩ = some u) ∧ w.frozen? ⟨b, off + 0 + j, none⟩ = false)
    (h : K a (putC w b off vs)) : o.wp P a w K Q := by
  subst hk
  have hs := run_storeCells_put (P := P) vs w b off 0 h1 hm
  unfold Oper.wp execOp
  have hz : (Value.agg vs.toArray).cells.size = vs.length := by simp [Value.cells]
  simp only [ho, hx, hy, Instr.storeAt, storeVar, Instr.sureAddr, Sem.run_bind, Sem.run_pure, Result.andThen_ok, hA.size, hz, ne_eq, not_true, if_false]
  rw [show (Value.agg vs.toArray).cells.toList = vs by simp [Value.cells], hs]
  show K (a.put o.dst undef) (putC w b (off + 0) vs)
  rw [hd]
  exact h
theorem wpList_store_cs {ops : Array Oper} {rest : List Oper} {o : Oper} {a : Act} {Q : Exit → Act → World → Prop} (hgd : o.guard = none) {ty : TypeId} (x y : Operand) (ho : o.op = .store ty x y) (hd : o.dst = none) {k b off : Nat} (hA : Agg P ty k)
    (hx : a.eval x = .pointer (some ⟨b, off, none⟩)) (vs : List Value) (hy : a.eval y = .agg vs.toArray) (hk : vs.length = k) (h1 : ∀ v ∈ vs, v.oneCell' = true)
    (hm : ∀ j, j < vs.length → (∃ u, w.cell? ⟨b, off + 0 + j, none⟩ = some u) ∧ w.frozen? ⟨b, off + 0 + j, none⟩ = false)
    (h : wpList P ops Q rest a (putC w b off vs)) : wpList P ops Q (o :: rest) a w :=
  wpList_plain hgd fun _ hK => wp_store_cs x y ho hd hA hx vs hy hk h1 hm (hK _ _ h)
theorem wpList_store_box {ops : Array Oper} {rest : List Oper} {o : Oper} {a : Act} {Q : Exit → Act → World → Prop} (hgd : o.guard = none) {ty : TypeId} (x y : Operand) (ho : o.op = .store ty x y) (hd : o.dst = none) {k b : Nat} (hA : Agg P ty k)
    (hx : a.eval x = .pointer (some ⟨b, 0, none⟩)) (vs : List Value) (hy : a.eval y = .agg vs.toArray) (hk : vs.length = k) (h1 : ∀ v ∈ vs, v.oneCell' = true) (old : List Value) (hB : Box w b old) (hl : old.length = k)
    (h : wpList P ops Q rest a (putC w b 0 vs)) : wpList P ops Q (o :: rest) a w :=
  wpList_store_cs hgd x y ho hd hA hx vs hy hk h1 (hB.may 0 vs.length (by omega)) h
theorem results_box {fn : Func} {p : Tmp} {ty : TypeId} {k : Nat} (h : fn.results = #[.cell p ty]) (tmps : Array Value) (g : Nat) (cs : List Value) (hA : Agg P ty k) (hk : cs.length = k)
    (hp : tmps.getD p undef = .pointer (some ⟨g, 0, none⟩)) (hB : Box w g cs) : (results fn tmps).run P w = .ok (.agg cs.toArray) w := by
  have hp' : tmps[p]?.getD undef = .pointer (some ⟨g, 0, none⟩) := by simpa using hp
  have := run_loadVar_cs (P := P) (w := w) (b := g) (off := 0) hA cs hk hB.cells
  simp [results, h, hp', asAddr, this]
theorem wpList_build0 {ops : Array Oper} {rest : List Oper} {o : Oper} {a : Act} {Q : Exit → Act → World → Prop} (hgd : o.guard = none) {ty : TypeId} (ho : o.op = .build ty #[]) (cells : Array Value) (hb : P.built ty [] = some cells)
    (h : wpList P ops Q rest (a.put o.dst (.agg cells)) w) : wpList P ops Q (o :: rest) a w :=
  wpList_plain hgd fun _ hK => by
    have hr := run_build (P := P) w ty #[] cells hb
    unfold Oper.wp execOp
    simp only [ho, Sem.run_bind, List.map_toArray, List.map_nil]
    rw [hr]
    exact hK _ _ h
end
end Go.Proofs.Palim

/-
  The plain mathematics of the document's checksum: a fold over the bytes, bounded by the modulus.
-/
set_option maxRecDepth 100000
namespace Go.Proofs.Palim
open Go

/-- The checksum after one more byte. -/
def sumStep (n : Int) (c : UInt8) : Int := (257 * n + (c.toNat : Int) + 1) % 65521
/-- The checksum of a list of bytes, from a start. -/
def sumFrom (n : Int) (l : List UInt8) : Int := l.foldl sumStep n

theorem sumStep_bd (n : Int) (c : UInt8) : 0 ≤ sumStep n c ∧ sumStep n c < 65521 := by
  unfold sumStep; omega
theorem sumFrom_bd (l : List UInt8) : ∀ n : Int, 0 ≤ n → n < 65521 → 0 ≤ sumFrom n l ∧ sumFrom n l < 65521 := by
  induction l with
  | nil => intro n h1 h2; exact ⟨h1, h2⟩
  | cons c l ih => intro n _ _; exact ih _ (sumStep_bd n c).1 (sumStep_bd n c).2
theorem sumFrom_snoc (n : Int) (l : List UInt8) (c : UInt8) : sumFrom n (l ++ [c]) = sumStep (sumFrom n l) c := by
  simp [sumFrom]
theorem take_snoc (s : ByteArray) (k : Nat) (h : k < s.size) : s.data.toList.take (k + 1) = s.data.toList.take k ++ [s[k]] := by
  rw [List.take_succ_eq_append_getElem (by simpa using h)]; rfl
theorem ret_int {k : IntKind} {a b : Int} (h : a = b) : Ending.returned (.int k a) = .returned (.int k b) := by rw [h]
/-- The checksum of a text. -/
def sumOf (s : ByteArray) : Int := sumFrom (1 + (s.size : Int) % 997) s.data.toList
theorem sumOf_bd (s : ByteArray) : 0 ≤ sumOf s ∧ sumOf s < 65521 :=
  sumFrom_bd _ _ (by omega) (by omega)
end Go.Proofs.Palim

/-
  Byte slices that the call made itself: read back as a string; plain facts on rows.
-/
set_option maxRecDepth 100000
namespace Go.Proofs.Palim
open Go Go.RowKit

/-- The cells of a list of bytes. -/
def bcs (l : List UInt8) : List Value := l.map fun b => .int .u8 (b.toNat : Int)
theorem bcs_length (l : List UInt8) : (bcs l).length = l.length := by simp [bcs]
theorem bcs_append (a b : List UInt8) : bcs (a ++ b) = bcs a ++ bcs b := by simp [bcs]
theorem bcs_one (l : List UInt8) : ∀ u ∈ bcs l, u.oneCell' = true := by
  intro u hu; simp only [bcs, List.mem_map] at hu; obtain ⟨b, _, rfl⟩ := hu; rfl

/-- 'string(b)' of a slice that the call owns. -/
theorem run_convert_own {P : Program} {w : World} {base e : Nat} {v : Value} {n : Nat} {l : List UInt8} (src dst : TypeId) (hs : P.underlying src = some (.slice e)) (he : P.underlying e = some (.int .u8)) (hd : P.underlying dst = some .string)
    (h : w.ownsRow base e 1 v n (bcs l)) : (convert src dst v).run P w = .ok (.string ⟨l.toArray⟩) w := by
  have hl : l.length = n := by have := h.1; rw [bcs_length] at this; omega
  rcases h.2 with ⟨rfl, rfl⟩ | ⟨g, cap, cur, rfl, hb, hg, h1, h2, h3, h4⟩
  · obtain rfl : l = [] := List.length_eq_zero_iff.1 hl
    exact run_convert_bytes_nil w src e hs he 0 0 dst hd
  · subst hl
    refine run_convert_bytes_back w src dst e ⟨g, 0, none⟩ cap l hs he hd fun j hj => ?_
    exact h.cells (g := g) rfl j _ (by simp [bcs, List.getElem?_eq_getElem hj])

/-- 'string([]byte{x})': the literal is made on the spot. -/
theorem run_convert_one {P : Program} (w : World) (src dst e : TypeId) (hs : P.underlying src = some (.slice e)) (he : P.underlying e = some (.int .u8)) (hd : P.underlying dst = some .string) (z : Int) (c : UInt8) (hz : z = (c.toNat : Int)) :
    (convert src dst (.slice (some ⟨w.heap.size, 0, none⟩) 1 1)).run P (w.alloc (.cells #[.int .u8 z] e)) = .ok (.string ⟨#[c]⟩) (w.alloc (.cells #[.int .u8 z] e)) := by
  subst hz
  refine run_convert_bytes_back (w.alloc (.cells #[.int .u8 (c.toNat : Int)] e)) src dst e ⟨w.heap.size, 0, none⟩ 1 [c] hs he hd fun j hj => ?_
  obtain rfl : j = 0 := by simp at hj; omega
  simp [go_sem, Addr.add]
theorem str_app (a b : List UInt8) : (⟨a.toArray⟩ : ByteArray) ++ (⟨b.toArray⟩ : ByteArray) = ⟨(a ++ b).toArray⟩ := by
  apply ByteArray.ext
  simp [ByteArray.data_append]
theorem str_of (s : ByteArray) : (⟨s.data.toList.toArray⟩ : ByteArray) = s := by
  apply ByteArray.ext; simp
theorem digit_small (m : Nat) (h : m < 10) : (48 : Int) + (m : Int) = ((UInt8.ofNat (48 + m)).toNat : Int) := by
  rw [UInt8.toNat_ofNat_of_lt' (by have : UInt8.size = 256 := rfl; omega)]; omega
theorem digit_of (m : Nat) : (48 : Int) + (m : Int) % 10 = ((UInt8.ofNat (48 + m % 10)).toNat : Int) := by
  rw [← digit_small (m % 10) (by omega)]; omega
end Go.Proofs.Palim

/-
  The laws' own helpers on lists of strings: copied, compared, measured, marked and asked for the marks.
-/
set_option maxRecDepth 100000
namespace Go.Proofs.YtojjenclcidnkaaGreatDoor
open Go.ChangeShapes Go.WideShapes Go.ChangeAt Go.RowKit Go.Proofs.Palim

theorem infoStr : (Tryz.prog.info? 9).map (fun i => (i.zero, i.size, i.bytes)) = some (some (.string ⟨#[]⟩), 1, 16) := by kernel_rfl

/-- A new list of strings of the call's own. -/
def NewStrs (w : World) (ss : List ByteArray) (e : Ending) (w' : World) : Prop :=
  ∃ v, e = .returned v ∧ w'.ownsRow w.heap.size 9 1 v ss.length (scs ss) ∧ Below w.heap.size w w'

set_option maxHeartbeats 400000 in
theorem toStringS_any (v : Value) (ss : List ByteArray) (w : World) (h : Sl w 1 v ss.length (scs ss)) (hs : ss.length ≤ 1048576) :
    Calls Tryz.prog 98 #[v] w (NewStrs w ss) := by
  obtain ⟨i0, hi, hz0, hz1, hz2⟩ := info_parts infoStr
  obtain ⟨n, HN⟩ : ∃ n, Hid (ss.length = n) := ⟨_, Lib.hid rfl⟩
  rw [HN.out] at h hs
  by_cases hn : n = 0
  · subst hn
    have HE := Lib.hid (List.length_eq_zero_iff.1 HN.out)
    obtain ⟨_, A, c, rfl, _, _, _⟩ := h
    go_enter Tryz.func98, Tryz.ntmps98
    go_wp2_with (first | (at_make; refine wpList_make_full _ rfl _ _ 22 rfl w.heap.size 9 i0 (.string ⟨#[]⟩) 1 Tryz.underlying22 hi hz0 hz1 _ _ _ _ 0 rfl rfl (by omega) (by omega) (by omega) (by unfold maxLen; omega) (Nat.le_refl _) ?_))
    intro w1 hown hgrow
    go_wp2
    go_loopw [4] (fun i wr => i = .int .i64 0 ∧ wr = w1) (fun _ _ => 0)
    case atStart => exact ⟨rfl, rfl⟩
    case round =>
      obtain ⟨rfl, rfl⟩ := hrel
      go_wp2
      go_ret
      refine ⟨_, rfl, ?_, (Below.refl _ _).grown hgrow (Nat.le_refl _) (fun _ h => by cases h)⟩
      rw [HE.out]
      have e0 := List.length_eq_zero_iff.1 (show (madeCells #[Value.string ⟨#[]⟩] 0).toList.length = 0 from by simpa using hown.1)
      have h2 := hown
      rw [e0] at h2
      exact h2
  · obtain ⟨b, off, c, rfl, hnc, hcm, hcell⟩ := h.form (by omega)
    have hbl : b < w.heap.size := h.lt (by omega) (by omega) b rfl
    have HC := Lib.hid hcell
    unfold maxLen at hcm
    clear hcell h
    go_enter Tryz.func98, Tryz.ntmps98
    go_wp2_with (first | (at_make; refine wpList_make_full _ rfl _ _ 22 rfl w.heap.size 9 i0 (.string ⟨#[]⟩) 1 Tryz.underlying22 hi hz0 hz1 _ _ _ _ n rfl rfl rfl rfl (by rw [hz2]; omega) (by unfold maxLen; omega) (Nat.le_refl _) ?_))
    intro w1 hown hgrow
    go_wp2
    go_loopw [4] (fun i wr => ∃ (k : Nat) (xs : List Value), k ≤ n ∧ i = .int .i64 k ∧ Hid (wr.ownsRow w.heap.size 9 1 (.slice (some ⟨w.heap.size, 0, none⟩) n n) n xs) ∧ Hid (xs.take k = scs (ss.take k)) ∧ Hid (Below w.heap.size w wr)) (fun i _ => n - (intOf i).toNat)
    case atStart => exact ⟨0, _, Nat.zero_le _, rfl, Lib.hid hown, Lib.hid rfl, Lib.hid ((Below.refl _ _).grown hgrow (Nat.le_refl _) (fun _ h => by cases h))⟩
    case round =>
      obtain ⟨k, xs, hk, rfl, HO, HT, HB⟩ := hrel
      clear hown hgrow
      by_cases hlt : k < n
      · have hlt' : k < ss.length := by rw [HN.out]; exact hlt
        have hrd : wr.cell? ⟨b, off + k, none⟩ = some (.string ss[k]) := (HB.out.cell hbl).trans (HC.out k _ (scs_at ss k hlt'))
        obtain ⟨⟨u, _, hcu⟩, hfu, _, _⟩ := own_at HO.out k (by omega)
        have HO2 := Lib.hid (own_set HO.out k (.string ss[k]))
        have HB2 := Lib.hid (HB.out.setCell (p := ⟨w.heap.size, k, none⟩) (Nat.le_refl _) (.string ss[k]))
        have HT2 := Lib.hid (show (xs.set k (.string ss[k])).take (k + 1) = scs (ss.take (k + 1)) from by
          have hl : k < xs.length := by have := HO.out.1; omega
          rw [take_set_succ xs k _ hl, HT.out, List.take_succ_eq_append_getElem hlt', scs_snoc])
        clear HO HT HB
        go_wp2
        go_roundw
        case rel => exact ⟨k + 1, _, by omega, by go_num, HO2, HT2, HB2⟩
        case measure => simp [intOf]; omega
      · have hkn : k = n := by omega
        have HX := Lib.hid (show xs = scs ss from by
          have hl := HO.out.1
          have ht := HT.out
          rw [List.take_of_length_le (by omega), List.take_of_length_le (by rw [HN.out]; omega)] at ht
          exact ht)
        clear hkn
        go_wp2
        go_ret
        refine ⟨_, rfl, ?_, HB.out⟩
        rw [HN.out, ← HX.out]
        exact HO.out

theorem drewN_zero (w : World) : w.drewN 0 = w := rfl
/-- Only the count of draws has moved. -/
def Drawn (v : Value) (w : World) (e : Ending) (w' : World) : Prop := e = .returned v ∧ ∃ q, w' = w.drewN q

set_option maxHeartbeats 400000 in
theorem eqStringS_same (va vb : Value) (ss : List ByteArray) (w : World) (ha : Sl w 1 va ss.length (scs ss)) (hb : Sl w 1 vb ss.length (scs ss)) (hs : ss.length ≤ 1048576) :
    Calls Tryz.prog 109 #[va, vb] w (Drawn (.bool true) w) := by
  obtain ⟨n, HN⟩ : ∃ n, Hid (ss.length = n) := ⟨_, Lib.hid rfl⟩
  rw [HN.out] at ha hb hs
  by_cases hn : n = 0
  · subst hn
    obtain ⟨_, A, c, rfl, _, _, _⟩ := ha
    obtain ⟨_, A', c', rfl, _, _, _⟩ := hb
    go_enter Tryz.func109, Tryz.ntmps109
    go_wp2
    go_loopw [5] (fun i wr => i = .int .i64 0 ∧ wr = w) (fun _ _ => 0)
    case atStart => exact ⟨rfl, rfl⟩
    case round =>
      obtain ⟨rfl, rfl⟩ := hrel
      go_wp2
      go_ret
      exact ⟨rfl, 0, rfl⟩
  · obtain ⟨b, off, c, rfl, hnc, hcm, hcell⟩ := ha.form (by omega)
    obtain ⟨b', off', c', rfl, hnc', hcm', hcell'⟩ := hb.form (by omega)
    have HC := Lib.hid hcell
    have HC' := Lib.hid hcell'
    unfold maxLen at hcm hcm'
    clear hcell hcell' ha hb
    go_enter Tryz.func109, Tryz.ntmps109
    go_wp2
    go_loopw [5] (fun i wr => ∃ (k q : Nat), k ≤ n ∧ i = .int .i64 k ∧ wr = w.drewN q) (fun i _ => n - (intOf i).toNat)
    case atStart => exact ⟨0, 0, Nat.zero_le _, rfl, rfl⟩
    case round =>
      obtain ⟨k, q, hk, rfl, rfl⟩ := hrel
      by_cases hlt : k < n
      · have hlt' : k < ss.length := by rw [HN.out]; exact hlt
        have h1 : w.cell? ⟨b, off + k, none⟩ = some (.string ss[k]) := HC.out k _ (scs_at ss k hlt')
        have h2 : w.cell? ⟨b', off' + k, none⟩ = some (.string ss[k]) := HC'.out k _ (scs_at ss k hlt')
        have hk1 : (k : Int) < (n : Int) := by omega
        go_wp2_with fail
        go_quiet (fail)
        go_wp2
        go_roundw
        case rel => exact ⟨k + 1, _, by omega, by go_num, rfl⟩
        case measure => simp [intOf]; omega
      · go_wp2
        go_ret
        exact ⟨rfl, q, rfl⟩

/-- The bytes of a list of strings. -/
def tot (ss : List ByteArray) : Nat := (ss.map ByteArray.size).sum
theorem tot_snoc (a : List ByteArray) (s : ByteArray) : tot (a ++ [s]) = tot a + s.size := by simp [tot]
/-- What is left behind n elements and t bytes; or less than nothing. -/
def SzPost (m : Nat) (left : Int) (w : World) (e : Ending) (w' : World) : Prop := ∃ r : Int, e = .returned (.int .i64 r) ∧ w = w' ∧ (r = -1 ∨ 0 ≤ r ∧ r + m = left)

set_option maxHeartbeats 400000 in
theorem szStringS_any (v : Value) (ss : List ByteArray) (left : Int) (w : World) (h : Sl w 1 v ss.length (scs ss)) (hz : ∀ s ∈ ss, s.size ≤ maxLen) (h0 : 0 ≤ left) (h1 : left ≤ 1048576) :
    Calls Tryz.prog 88 #[v, .int .i64 left] w (SzPost (ss.length + tot ss) left w) := by
  obtain ⟨n, HN⟩ : ∃ n, Hid (ss.length = n) := ⟨_, Lib.hid rfl⟩
  have HZ := Lib.hid hz
  clear hz
  rw [HN.out] at h
  have hnm := h.le
  unfold maxLen at hnm
  by_cases hbig : left < n
  · obtain ⟨_, A, c, rfl, _, _, _⟩ := h
    go_enter Tryz.func88, Tryz.ntmps88
    go_wp2
    go_ret
    exact ⟨-1, rfl, rfl, Or.inl rfl⟩
  by_cases hn : n = 0
  · subst hn
    have HE := Lib.hid (List.length_eq_zero_iff.1 HN.out)
    obtain ⟨_, A, c, rfl, _, _, _⟩ := h
    go_enter Tryz.func88, Tryz.ntmps88
    go_wp2
    go_loop [1, 5] (fun l i => l = .int .i64 left ∧ i = .int .i64 0) (fun _ _ => 0)
    case atStart => exact ⟨rfl, rfl⟩
    case round =>
      obtain ⟨rfl, rfl⟩ := hrel
      go_wp2
      go_ret
      exact ⟨left, rfl, rfl, Or.inr ⟨h0, by rw [HE.out]; simp [tot]⟩⟩
  · obtain ⟨b, off, c, rfl, hnc, hcm, hcell⟩ := h.form (by omega)
    have HC := Lib.hid hcell
    unfold maxLen at hcm
    clear hcell h
    go_enter Tryz.func88, Tryz.ntmps88
    go_wp2
    go_loop [1, 5] (fun l i => ∃ (k : Nat) (r : Int), k ≤ n ∧ i = .int .i64 k ∧ l = .int .i64 r ∧ 0 ≤ r ∧ r ≤ left ∧ Hid (r + n + tot (ss.take k) = left)) (fun _ i => n - (intOf i).toNat)
    case atStart => exact ⟨0, left - n, Nat.zero_le _, rfl, rfl, by omega, by omega, Lib.hid (by simp [tot])⟩
    case round =>
      obtain ⟨k, r, hk, rfl, rfl, hr0, hr1, HR⟩ := hrel
      by_cases hlt : k < n
      · have hlt' : k < ss.length := by rw [HN.out]; exact hlt
        have hrd : w.cell? ⟨b, off + k, none⟩ = some (.string ss[k]) := HC.out k _ (scs_at ss k hlt')
        have hsz := HZ.out ss[k] (List.getElem_mem _)
        unfold maxLen at hsz
        have HT := Lib.hid (show tot (ss.take (k + 1)) = tot (ss.take k) + ss[k].size from by rw [List.take_succ_eq_append_getElem hlt', tot_snoc])
        obtain ⟨s, HS⟩ : ∃ s, Hid (s = ss[k]) := ⟨_, Lib.hid rfl⟩
        rw [← HS.out] at hrd hsz
        by_cases hneg : r < s.size
        · go_wp2
          go_ret
          exact ⟨-1, rfl, rfl, Or.inl rfl⟩
        · go_wp2
          go_round
          case rel => exact ⟨k + 1, r - s.size, by omega, by go_num, by go_num, by omega, by omega, Lib.hid (by have h1 := HR.out; have h2 := HT.out; rw [← HS.out] at h2; rw [h2]; omega)⟩
          case measure => simp [intOf]; omega
      · have HK := Lib.hid (show ss.take k = ss from List.take_of_length_le (by rw [HN.out]; omega))
        go_wp2
        go_ret
        exact ⟨r, rfl, rfl, Or.inr ⟨hr0, by have h1 := HR.out; rw [HK.out] at h1; rw [HN.out]; omega⟩⟩

/-- The text of a mark. -/
def mkText (k : Nat) : ByteArray := ⟨(109 :: Lib.decDigits k).toArray⟩

set_option maxHeartbeats 400000 in
theorem markText_any (n : Nat) (w : World) (h0 : 1 ≤ n) (hn : n < 1000000000) :
    Calls Tryz.prog 87 #[.int .i64 (n : Int)] w fun e w' => e = .returned (.string (mkText n)) ∧ Below w.heap.size w w' := by
  go_enter Tryz.func87, Tryz.ntmps87
  go_wp2
  go_loopw [0, 3] (fun i v wr => ∃ (m : Nat) (o : List UInt8), m ≤ n ∧ i = .int .i64 (m : Int) ∧ v = .string ⟨o.toArray⟩ ∧ Below w.heap.size w wr ∧ Hid (Lib.decDigits n = (if m = 0 then [] else Lib.decDigits m) ++ o)) (fun i _ _ => (intOf i).toNat)
  case atStart => exact ⟨n, [], Nat.le_refl _, rfl, rfl, Below.refl _ _, Lib.hid (by rw [if_neg (by omega)]; simp)⟩
  case round =>
    obtain ⟨m, o, hm, rfl, rfl, hb, HD⟩ := hrel
    have ho : o.length ≤ 21 := by
      have h1 := congrArg List.length HD.out
      have h2 := Lib.itoa_length_le (n : Int) (by omega) (by omega)
      rw [Lib.itoa_nonneg] at h2
      rw [List.length_append] at h1
      omega
    by_cases hlt : 0 < m
    · obtain ⟨c, HC⟩ : ∃ c, Hid (c = UInt8.ofNat (48 + m % 10)) := ⟨_, Lib.hid rfl⟩
      have hcv := run_convert_one (P := Tryz.prog) wr 168 9 5 Tryz.underlying168 Tryz.underlying5 Tryz.underlying9 (48 + (m : Int) % 10) c (by rw [HC.out]; exact digit_of m)
      have HN := Lib.hid (show Lib.decDigits m = (if m / 10 = 0 then [] else Lib.decDigits (m / 10)) ++ [c] from by
        rw [HC.out]
        by_cases h10 : m < 10
        · rw [if_pos (by omega), Lib.decDigits_one h10, Nat.mod_eq_of_lt h10]; rfl
        · rw [if_neg (by omega), Lib.decDigits, dif_neg h10])
      go_wp2
      go_roundw
      case rel => exact ⟨m / 10, c :: o, by omega, by go_num, by rw [show (⟨#[c]⟩ : ByteArray) = ⟨[c].toArray⟩ from rfl, str_app]; rfl, hb.alloc hb.size _, Lib.hid (by rw [HD.out, if_neg (by omega), HN.out]; simp)⟩
      case measure => simp [intOf]; omega
    · have hm0 : m = 0 := by omega
      have HF := Lib.hid (show Lib.decDigits n = o from by rw [HD.out, if_pos hm0]; rfl)
      clear hm0
      go_wp2
      go_ret
      refine ⟨?_, hb⟩
      show Ending.returned (.string ((⟨[109].toArray⟩ : ByteArray) ++ ⟨o.toArray⟩)) = _
      rw [str_app, ← HF.out]
      rfl

/-- The marks from k on. -/
def marks (k n : Nat) : List ByteArray := (List.range n).map fun i => mkText (k + i)
theorem marks_length (k n : Nat) : (marks k n).length = n := by simp [marks]
theorem marks_succ (k n : Nat) : marks k (n + 1) = marks k n ++ [mkText (k + n)] := by simp [marks, List.range_succ]
theorem marks_at (k n i : Nat) (h' : i < (marks k n).length) : (marks k n)[i] = mkText (k + i) := by simp [marks]

/-- Marked: the slice holds the marks, and nothing else that was there has turned. -/
def Marked (k : Nat) (v : Value) (base n : Nat) (w : World) (e : Ending) (w' : World) : Prop :=
  e = .returned (.int .i64 ((k + n : Nat) : Int)) ∧ w'.ownsRow base 9 1 v n (scs (marks k n)) ∧ Turned (fun b => v.ownBlock = some b) w w'

def HeldPost (r : Int) (w : World) (e : Ending) (w' : World) : Prop := e = .returned (.int .i64 r) ∧ Below w.heap.size w w'

end Go.Proofs.YtojjenclcidnkaaGreatDoor

/-
  The laws' own helpers on the entries of the table of blocks.
-/
set_option maxRecDepth 100000
namespace Go.Proofs.YtojjenclcidnkaaGreatDoor
open Go.ChangeShapes Go.WideShapes Go.ChangeAt Go.RowKit Go.Proofs.Palim

/-- An entry, as plain data. -/
structure EntM where
  sum : Int
  at_ : Int
  count : Int
def ec (x : EntM) : List Value := [.int .i64 x.sum, .int .i64 x.at_, .int .i64 x.count]
def ecs (ls : List EntM) : List Value := ls.flatMap ec
theorem ecs_length (ls : List EntM) : (ecs ls).length = ls.length * 3 := by
  induction ls with
  | nil => rfl
  | cons x ls ih => simp [ecs, ec] at ih ⊢; omega
theorem ecs_snoc (a : List EntM) (x : EntM) : ecs (a ++ [x]) = ecs a ++ ec x := by simp [ecs]
theorem ecs_at (ls : List EntM) : ∀ (k : Nat) (h : k < ls.length), (ecs ls)[k * 3]? = some (.int .i64 ls[k].sum) ∧ (ecs ls)[k * 3 + 1]? = some (.int .i64 ls[k].at_) ∧ (ecs ls)[k * 3 + 2]? = some (.int .i64 ls[k].count) := by
  induction ls with
  | nil => intro k h; simp at h
  | cons x ls ih =>
    intro k h
    have e : ecs (x :: ls) = [.int .i64 x.sum, .int .i64 x.at_, .int .i64 x.count] ++ ecs ls := by simp [ecs, ec]
    cases k with
    | zero => rw [e]; exact ⟨rfl, rfl, rfl⟩
    | succ k =>
      have := ih k (by simpa using h)
      rw [e, show (k + 1) * 3 = k * 3 + 3 by omega]
      rw [List.getElem?_append_right (by simp), List.getElem?_append_right (by simp <;> omega), List.getElem?_append_right (by simp <;> omega)]
      simp only [List.length_cons, List.length_nil, List.getElem_cons_succ]
      rw [show k * 3 + 3 - (0 + 1 + 1 + 1) = k * 3 by omega, show k * 3 + 3 + 1 - (0 + 1 + 1 + 1) = k * 3 + 1 by omega, show k * 3 + 3 + 2 - (0 + 1 + 1 + 1) = k * 3 + 2 by omega]
      exact this
theorem ent_read {w : World} {ls : List EntM} {b off : Nat} (hc : ∀ j u, (ecs ls)[j]? = some u → w.cell? ⟨b, off + j, none⟩ = some u) (k : Nat) (h : k < ls.length) :
    w.cell? ⟨b, off + k * 3, none⟩ = some (.int .i64 ls[k].sum) ∧ w.cell? ⟨b, off + k * 3 + 1, none⟩ = some (.int .i64 ls[k].at_) ∧ w.cell? ⟨b, off + k * 3 + 2, none⟩ = some (.int .i64 ls[k].count) := by
  have hat := ecs_at ls k h
  exact ⟨hc _ _ hat.1, by rw [Nat.add_assoc]; exact hc _ _ hat.2.1, by rw [Nat.add_assoc]; exact hc _ _ hat.2.2⟩
/-- As a value. -/
def entV (x : EntM) : Value := .agg #[.int .i64 x.sum, .int .i64 x.at_, .int .i64 x.count]

set_option maxHeartbeats 400000 in
theorem toDdtEntry_any (a b s : Int) (w : World) :
    Calls Tryz.prog 101 #[.agg #[.int .i64 a, .int .i64 b, .int .i64 s]] w fun e w' => e = .returned (.agg #[.int .i64 a, .int .i64 b, .int .i64 s]) ∧ Below w.heap.size w w' := by
  go_enter Tryz.func101, Tryz.ntmps101
  go_wp2
  refine bodyPost_ret (v := .agg #[.int .i64 a, .int .i64 b, .int .i64 s]) (by simp [results, Tryz.results101, go_sem]) rfl ⟨rfl, ?_⟩
  exact (((Below.refl _ _).alloc (Nat.le_refl _) _).alloc (by simp) _).alloc (by simp; omega) _

set_option maxHeartbeats 400000 in
theorem eqDdtEntry_same (a b s : Int) (w : World) :
    Calls Tryz.prog 85 #[.agg #[.int .i64 a, .int .i64 b, .int .i64 s], .agg #[.int .i64 a, .int .i64 b, .int .i64 s]] w fun e w' => e = .returned (.bool true) ∧ Below w.heap.size w w' := by
  go_enter Tryz.func85, Tryz.ntmps85
  go_wp2
  go_ret
  exact ⟨rfl, ((Below.refl _ _).alloc (Nat.le_refl _) _).alloc (by simp) _⟩

set_option maxHeartbeats 400000 in
theorem szDdtEntryS_any (v : Value) (n : Nat) (xs : List Value) (left : Int) (w : World) (h : Sl w 3 v n xs) (h0 : 0 ≤ left) (h1 : left ≤ 1048576) :
    Calls Tryz.prog 48 #[v, .int .i64 left] w fun e w' => e = .returned (.int .i64 (if left < n then -1 else left - n)) ∧ Below w.heap.size w w' := by
  have hnm := h.le
  unfold maxLen at hnm
  obtain ⟨_, A, c, rfl, _, _, _⟩ := h
  by_cases hl : left < n
  · rw [if_pos hl]
    go_enter Tryz.func48, Tryz.ntmps48
    go_wp2
    go_ret
    exact ⟨rfl, Below.refl _ _⟩
  · rw [if_neg hl]
    go_enter Tryz.func48, Tryz.ntmps48
    go_wp2
    go_ret
    exact ⟨rfl, Below.refl _ _⟩

theorem infoEnt : (Tryz.prog.info? 135).map (fun i => (i.zero, i.size, i.bytes)) = some (some (.agg #[.int .i64 0, .int .i64 0, .int .i64 0]), 3, 24) := by kernel_rfl

/-- A new list of entries of the call's own. -/
def NewEnts (w : World) (ls : List EntM) (e : Ending) (w' : World) : Prop :=
  ∃ v, e = .returned v ∧ w'.ownsRow w.heap.size 135 3 v ls.length (ecs ls) ∧ Below w.heap.size w w'

set_option maxHeartbeats 400000 in
theorem toDdtEntryS_any (v : Value) (ls : List EntM) (w : World) (h : Sl w 3 v ls.length (ecs ls)) (hv : ∀ b, v.ownBlock = some b → b < w.heap.size) (hs : ls.length ≤ 1048576) :
    Calls Tryz.prog 59 #[v] w (NewEnts w ls) := by
  obtain ⟨i0, hi, hz0, hz1, hz2⟩ := info_parts infoEnt
  obtain ⟨n, HN⟩ : ∃ n, Hid (ls.length = n) := ⟨_, Lib.hid rfl⟩
  rw [HN.out] at h hs
  by_cases hn : n = 0
  · subst hn
    have HE := Lib.hid (List.length_eq_zero_iff.1 HN.out)
    obtain ⟨_, A, c, rfl, _, _, _⟩ := h
    clear hv
    go_enter Tryz.func59, Tryz.ntmps59
    go_wp2_with (first | (at_make; refine wpList_make_full _ rfl _ _ 42 rfl w.heap.size 135 i0 (.agg #[.int .i64 0, .int .i64 0, .int .i64 0]) 3 Tryz.underlying42 hi hz0 hz1 _ _ _ _ 0 rfl rfl (by omega) (by omega) (by omega) (by unfold maxLen; omega) (Nat.le_refl _) ?_))
    intro w1 hown hgrow
    go_wp2
    go_loopw [4] (fun i wr => i = .int .i64 0 ∧ wr = w1) (fun _ _ => 0)
    case atStart => exact ⟨rfl, rfl⟩
    case round =>
      obtain ⟨rfl, rfl⟩ := hrel
      go_wp2
      go_ret
      refine ⟨_, rfl, ?_, (Below.refl _ _).grown hgrow (Nat.le_refl _) (fun _ h => by cases h)⟩
      rw [HE.out]
      have h2 := hown
      rw [List.length_eq_zero_iff.1 (hown.1.trans (Nat.zero_mul _))] at h2
      exact h2
  · obtain ⟨b, off, c, rfl, hnc, hcm, hcell⟩ := h.form (by omega)
    have hbl : b < w.heap.size := hv b rfl
    have HC := Lib.hid hcell
    unfold maxLen at hcm
    clear hcell h hv
    go_enter Tryz.func59, Tryz.ntmps59
    go_wp2_with (first | (at_make; refine wpList_make_full _ rfl _ _ 42 rfl w.heap.size 135 i0 (.agg #[.int .i64 0, .int .i64 0, .int .i64 0]) 3 Tryz.underlying42 hi hz0 hz1 _ _ _ _ n rfl rfl rfl rfl (by rw [hz2]; omega) (by unfold maxLen; omega) (Nat.le_refl _) ?_))
    intro w1 hown hgrow
    go_wp2
    go_loopw [4] (fun i wr => ∃ (k : Nat) (xs : List Value), k ≤ n ∧ i = .int .i64 k ∧ Hid (wr.ownsRow w.heap.size 135 3 (.slice (some ⟨w.heap.size, 0, none⟩) n n) n xs) ∧ Hid (xs.take (k * 3) = ecs (ls.take k)) ∧ Hid (Below w.heap.size w wr)) (fun i _ => n - (intOf i).toNat)
    case atStart => exact ⟨0, _, Nat.zero_le _, rfl, Lib.hid hown, Lib.hid rfl, Lib.hid ((Below.refl _ _).grown hgrow (Nat.le_refl _) (fun _ h => by cases h))⟩
    case round =>
      obtain ⟨k, xs, hk, rfl, HO, HT, HB⟩ := hrel
      clear hown hgrow
      by_cases hlt : k < n
      · have hlt' : k < ls.length := by rw [HN.out]; exact hlt
        have hrd := ent_read (fun j u hu => (HB.out.cell hbl).trans (HC.out j u hu)) k hlt'
        obtain ⟨x, HX⟩ : ∃ x, Hid (x = ls[k]) := ⟨_, Lib.hid rfl⟩
        rw [← HX.out] at hrd
        obtain ⟨h1, h2, h3⟩ := hrd
        go_wp2_with fail
        refine (toDdtEntry_any x.sum x.at_ x.count _).mono ?_
        rintro e w2 ⟨rfl, hb2⟩
        have HB1 := Lib.hid (HB.out.trans (hb2.mono HB.out.size))
        have HO1 := Lib.hid (own_kept HO.out (w' := w2) (fun b e => hb2.block b (by have := HO.out.lt b e; omega)))
        obtain ⟨⟨u0, _, hc0⟩, hf0, _, _⟩ := own_at HO1.out (k * 3) (by omega)
        obtain ⟨⟨u1, _, hc1⟩, hf1, _, _⟩ := own_at HO1.out (k * 3 + 1) (by omega)
        obtain ⟨⟨u2, _, hc2⟩, hf2, _, _⟩ := own_at HO1.out (k * 3 + 2) (by omega)
        have HO2 := Lib.hid (own_setN (own_setN (own_setN HO1.out (k * 3) (.int .i64 x.sum)) (k * 3 + 1) (.int .i64 x.at_)) (k * 3 + 2) (.int .i64 x.count))
        have HB2 := Lib.hid (((HB1.out.setCell (p := ⟨w.heap.size, k * 3, none⟩) (Nat.le_refl _) (.int .i64 x.sum)).setCell (p := ⟨w.heap.size, k * 3 + 1, none⟩) (Nat.le_refl _) (.int .i64 x.at_)).setCell (p := ⟨w.heap.size, k * 3 + 2, none⟩) (Nat.le_refl _) (.int .i64 x.count))
        have HT2 := Lib.hid (show (((xs.set (k * 3) (.int .i64 x.sum)).set (k * 3 + 1) (.int .i64 x.at_)).set (k * 3 + 2) (.int .i64 x.count)).take ((k + 1) * 3) = ecs (ls.take (k + 1)) from by
          have hl : k * 3 + 2 < xs.length := by have := HO.out.1; omega
          rw [take_set3 xs k _ _ _ hl, HT.out, List.take_succ_eq_append_getElem hlt', ecs_snoc, ← HX.out]
          rfl)
        clear h1 h2 h3 hb2 HO HO1 HB HB1 HT
        go_wp2
        go_roundw
        case rel => exact ⟨k + 1, _, by omega, by go_num, HO2, HT2, HB2⟩
        case measure => simp [intOf]; omega
      · have hkn : k = n := by omega
        have HX := Lib.hid (show xs = ecs ls from by
          have hl := HO.out.1
          have ht := HT.out
          rw [List.take_of_length_le (by omega), List.take_of_length_le (by rw [HN.out]; omega)] at ht
          exact ht)
        clear hkn
        go_wp2
        go_ret
        refine ⟨_, rfl, ?_, HB.out⟩
        rw [HN.out, ← HX.out]
        exact HO.out

set_option maxHeartbeats 400000 in
theorem eqDdtEntryS_same (va vb : Value) (ls : List EntM) (w : World) (ha : Sl w 3 va ls.length (ecs ls)) (hb : Sl w 3 vb ls.length (ecs ls)) (hva : ∀ b, va.ownBlock = some b → b < w.heap.size) (hvb : ∀ b, vb.ownBlock = some b → b < w.heap.size) (hs : ls.length ≤ 1048576) :
    Calls Tryz.prog 34 #[va, vb] w fun e w' => e = .returned (.bool true) ∧ Below w.heap.size w w' := by
  obtain ⟨n, HN⟩ : ∃ n, Hid (ls.length = n) := ⟨_, Lib.hid rfl⟩
  rw [HN.out] at ha hb hs
  have hnot : ∀ (x : Bool) (w : World), (Op.unary .not (.bool x)).run Tryz.prog w = .ok (.bool (!x)) w := fun _ _ => rfl
  by_cases hn : n = 0
  · subst hn
    obtain ⟨_, A, c, rfl, _, _, _⟩ := ha
    obtain ⟨_, A', c', rfl, _, _, _⟩ := hb
    clear hva hvb
    go_enter Tryz.func34, Tryz.ntmps34
    go_wp2
    go_loopw [5] (fun i wr => i = .int .i64 0 ∧ wr = w) (fun _ _ => 0)
    case atStart => exact ⟨rfl, rfl⟩
    case round =>
      obtain ⟨rfl, rfl⟩ := hrel
      go_wp2
      go_ret
      exact ⟨rfl, Below.refl _ _⟩
  · obtain ⟨b, off, c, rfl, hnc, hcm, hcell⟩ := ha.form (by omega)
    obtain ⟨b', off', c', rfl, hnc', hcm', hcell'⟩ := hb.form (by omega)
    have hbl : b < w.heap.size := hva b rfl
    have hbl' : b' < w.heap.size := hvb b' rfl
    have HC := Lib.hid hcell
    have HC' := Lib.hid hcell'
    unfold maxLen at hcm hcm'
    clear hcell hcell' ha hb hva hvb
    go_enter Tryz.func34, Tryz.ntmps34
    go_wp2
    go_loopw [5] (fun i wr => ∃ (k : Nat), k ≤ n ∧ i = .int .i64 k ∧ Hid (Below w.heap.size w wr)) (fun i _ => n - (intOf i).toNat)
    case atStart => exact ⟨0, Nat.zero_le _, rfl, Lib.hid (Below.refl _ _)⟩
    case round =>
      obtain ⟨k, hk, rfl, HB⟩ := hrel
      by_cases hlt : k < n
      · have hlt' : k < ls.length := by rw [HN.out]; exact hlt
        have hrd := ent_read (fun j u hu => (HB.out.cell hbl).trans (HC.out j u hu)) k hlt'
        have hrd' := ent_read (fun j u hu => (HB.out.cell hbl').trans (HC'.out j u hu)) k hlt'
        generalize ls[k] = x at hrd hrd'
        obtain ⟨h1, h2, h3⟩ := hrd
        obtain ⟨h1', h2', h3'⟩ := hrd'
        have hk1 : (k : Int) < (n : Int) := by omega
        go_wp2_with fail
        go_region_held3 (fun w' => w'.cell? ⟨b, off + k * 3, none⟩ = some (.int .i64 x.sum) ∧ w'.cell? ⟨b, off + k * 3 + 1, none⟩ = some (.int .i64 x.at_) ∧ w'.cell? ⟨b, off + k * 3 + 2, none⟩ = some (.int .i64 x.count) ∧ w'.cell? ⟨b', off' + k * 3, none⟩ = some (.int .i64 x.sum) ∧ w'.cell? ⟨b', off' + k * 3 + 1, none⟩ = some (.int .i64 x.at_) ∧ w'.cell? ⟨b', off' + k * 3 + 2, none⟩ = some (.int .i64 x.count))
          (first
            | go_keep
            | (go_split_ands
               refine ⟨?_, ?_, ?_, ?_, ?_, ?_⟩
               all_goals (rw [hb2.cell (by have := HB.out.size; simp <;> omega)]; assumption)))
          ((go_at_call 85; ((with_reducible refine (eqDdtEntry_same x.sum x.at_ x.count _).mono ?_); rintro e w2 ⟨rfl, hb2⟩)))
        all_goals
          have HB2 := Lib.hid (HB.out.drew.trans (hb2.mono (by have := HB.out.size; simp; omega)))
          clear HB hb2 h1 h2 h3 h1' h2' h3'
          go_wp2
          go_roundw
          case rel => exact ⟨k + 1, by omega, by go_num, HB2⟩
          case measure => simp [intOf]; omega
      · go_wp2
        go_ret
        exact ⟨rfl, HB.out⟩
end Go.Proofs.YtojjenclcidnkaaGreatDoor

/-
  A set's pointers: eight in an array; the laws' helpers on them.
-/
set_option maxRecDepth 100000
namespace Go.Proofs.YtojjenclcidnkaaGreatDoor
open Go.ChangeShapes Go.WideShapes Go.ChangeAt Go.RowKit Go.Proofs.Palim

def pc (p : PtrM) : List Value := [.int .i64 p.at_, .int .i64 p.sum, .int .i64 p.birth]
def pcs (ps : List PtrM) : List Value := ps.flatMap pc
theorem pcs_length (ls : List PtrM) : (pcs ls).length = ls.length * 3 := by
  induction ls with
  | nil => rfl
  | cons x ls ih => simp [pcs, pc] at ih ⊢; omega
theorem pcs_snoc (a : List PtrM) (x : PtrM) : pcs (a ++ [x]) = pcs a ++ pc x := by simp [pcs]
theorem pcs_at (ls : List PtrM) : ∀ (k : Nat) (h : k < ls.length), (pcs ls)[k * 3]? = some (.int .i64 ls[k].at_) ∧ (pcs ls)[k * 3 + 1]? = some (.int .i64 ls[k].sum) ∧ (pcs ls)[k * 3 + 2]? = some (.int .i64 ls[k].birth) := by
  induction ls with
  | nil => intro k h; simp at h
  | cons x ls ih =>
    intro k h
    have e : pcs (x :: ls) = [.int .i64 x.at_, .int .i64 x.sum, .int .i64 x.birth] ++ pcs ls := by simp [pcs, pc]
    cases k with
    | zero => rw [e]; exact ⟨rfl, rfl, rfl⟩
    | succ k =>
      have := ih k (by simpa using h)
      rw [e, show (k + 1) * 3 = k * 3 + 3 by omega]
      rw [List.getElem?_append_right (by simp), List.getElem?_append_right (by simp <;> omega), List.getElem?_append_right (by simp <;> omega)]
      simp only [List.length_cons, List.length_nil, List.getElem_cons_succ]
      rw [show k * 3 + 3 - (0 + 1 + 1 + 1) = k * 3 by omega, show k * 3 + 3 + 1 - (0 + 1 + 1 + 1) = k * 3 + 1 by omega, show k * 3 + 3 + 2 - (0 + 1 + 1 + 1) = k * 3 + 2 by omega]
      exact this
theorem ptr_read {w : World} {ls : List PtrM} {b off : Nat} (hc : ∀ j u, (pcs ls)[j]? = some u → w.cell? ⟨b, off + j, none⟩ = some u) (k : Nat) (h : k < ls.length) :
    w.cell? ⟨b, off + k * 3, none⟩ = some (.int .i64 ls[k].at_) ∧ w.cell? ⟨b, off + k * 3 + 1, none⟩ = some (.int .i64 ls[k].sum) ∧ w.cell? ⟨b, off + k * 3 + 2, none⟩ = some (.int .i64 ls[k].birth) := by
  have hat := pcs_at ls k h
  exact ⟨hc _ _ hat.1, by rw [Nat.add_assoc]; exact hc _ _ hat.2.1, by rw [Nat.add_assoc]; exact hc _ _ hat.2.2⟩
theorem ptr_box {w : World} {ls : List PtrM} {b : Nat} (hB : Box w b (pcs ls)) (k : Nat) (h : k < ls.length) :
    w.cell? ⟨b, k * 3, none⟩ = some (.int .i64 ls[k].at_) ∧ w.cell? ⟨b, k * 3 + 1, none⟩ = some (.int .i64 ls[k].sum) ∧ w.cell? ⟨b, k * 3 + 2, none⟩ = some (.int .i64 ls[k].birth) := by
  have hat := pcs_at ls k h
  exact ⟨hB.cell _ hat.1, hB.cell _ hat.2.1, hB.cell _ hat.2.2⟩
theorem pcs_one (ls : List PtrM) : ∀ v ∈ pcs ls, v.oneCell' = true := by
  intro v hv
  obtain ⟨p, _, hp⟩ := List.mem_flatMap.1 hv
  simp [pc] at hp
  rcases hp with rfl | rfl | rfl <;> rfl
/-- Eight pointers' value. -/
def mapV (ps : List PtrM) : Value := .agg (pcs ps).toArray
theorem aggMapL : Agg Tryz.prog 143 24 := ⟨Tryz.isAgg143, Tryz.sizeOf143⟩
theorem aggMap : Agg Tryz.prog 68 24 := ⟨Tryz.isAgg68, Tryz.sizeOf68⟩

/-- Eight null pointers. -/
def z24 : Array Value := #[.int .i64 0, .int .i64 0, .int .i64 0, .int .i64 0, .int .i64 0, .int .i64 0, .int .i64 0, .int .i64 0, .int .i64 0, .int .i64 0, .int .i64 0, .int .i64 0, .int .i64 0, .int .i64 0, .int .i64 0, .int .i64 0, .int .i64 0, .int .i64 0, .int .i64 0, .int .i64 0, .int .i64 0, .int .i64 0, .int .i64 0, .int .i64 0]

set_option maxHeartbeats 1000000 in
theorem toPtrA8_any (ps : List PtrM) (w : World) (h8 : ps.length = 8) :
    Calls Tryz.prog 130 #[.agg (pcs ps).toArray] w fun e w' => e = .returned (.agg (pcs ps).toArray) ∧ Below w.heap.size w w' := by
  have HL := Lib.hid (show (pcs ps).length = 24 by rw [pcs_length, h8])
  have H8 := Lib.hid h8
  obtain ⟨b1, b2, b3, hsz, hB⟩ := box3 w (pcs ps).toArray z24 z24 143 68 68
  have X1 := Lib.hid b1
  have X2 := Lib.hid b2
  have X3 := Lib.hid b3
  have B0 := Lib.hid hB
  clear b1 b2 b3 hB h8
  go_enter Tryz.func130, Tryz.ntmps130
  go_wp2_with fail
  go_loopw [4] (fun i wr => ∃ (k : Nat) (cs : List Value), k ≤ 8 ∧ i = .int .i64 k ∧ Hid (Box wr w.heap.size (pcs ps)) ∧ Hid (Box wr (w.heap.size + 1) z24.toList) ∧ Hid (Box wr (w.heap.size + 1 + 1) cs) ∧ Hid (cs.length = 24) ∧ Hid (cs.take (k * 3) = pcs (ps.take k)) ∧ Hid (Below w.heap.size w wr)) (fun i _ => 8 - (intOf i).toNat)
  case atStart => exact ⟨0, z24.toList, Nat.zero_le _, rfl, X1, X2, X3, Lib.hid rfl, Lib.hid rfl, B0⟩
  case round =>
    obtain ⟨k, cs, hk, rfl, Y1, Y2, Y3, HC, HT, HB⟩ := hrel
    clear X1 X2 X3 B0 hsz
    by_cases hlt : k < 8
    case pos =>
      have hk1 : (k : Int) < 8 := by omega
      have hl0 : k < ps.length := by rw [H8.out]; exact hlt
      obtain ⟨h1, h2, h3⟩ := ptr_box Y1.out k hl0
      obtain ⟨x, HX⟩ : ∃ x, Hid (x = ps[k]) := ⟨_, Lib.hid rfl⟩
      rw [← HX.out] at h1 h2 h3
      go_wp2_with fail
      refine (toPtr_any x _).mono ?_
      rintro e w2 ⟨rfl, hb2⟩
      have Z1 := Lib.hid (Y1.out.below hb2 Y1.out.lt)
      have Z2 := Lib.hid (Y2.out.below hb2 Y2.out.lt)
      have Z3 := Lib.hid (Y3.out.below hb2 Y3.out.lt)
      have HB1 := Lib.hid (HB.out.trans (hb2.mono HB.out.size))
      have hcl := HC.out
      have c0 := Z3.out.cell (k * 3) (List.getElem?_eq_getElem (by omega))
      have c1 := Z3.out.cell (k * 3 + 1) (List.getElem?_eq_getElem (by omega))
      have c2 := Z3.out.cell (k * 3 + 2) (List.getElem?_eq_getElem (by omega))
      have f0 := Z3.out.open_ (k * 3)
      have f1 := Z3.out.open_ (k * 3 + 1)
      have f2 := Z3.out.open_ (k * 3 + 2)
      generalize cs[k * 3] = u0 at c0
      generalize cs[k * 3 + 1] = u1 at c1
      generalize cs[k * 3 + 2] = u2 at c2
      have V1 := Lib.hid (((Z1.out.other (p := ⟨w.heap.size + 1 + 1, k * 3, none⟩) (by simp; omega) (.int .i64 x.at_)).other (p := ⟨w.heap.size + 1 + 1, k * 3 + 1, none⟩) (by simp; omega) (.int .i64 x.sum)).other (p := ⟨w.heap.size + 1 + 1, k * 3 + 2, none⟩) (by simp; omega) (.int .i64 x.birth))
      have V2 := Lib.hid (((Z2.out.other (p := ⟨w.heap.size + 1 + 1, k * 3, none⟩) (by simp) (.int .i64 x.at_)).other (p := ⟨w.heap.size + 1 + 1, k * 3 + 1, none⟩) (by simp) (.int .i64 x.sum)).other (p := ⟨w.heap.size + 1 + 1, k * 3 + 2, none⟩) (by simp) (.int .i64 x.birth))
      have V3 := Lib.hid (((Z3.out.set (k * 3) (.int .i64 x.at_)).set (k * 3 + 1) (.int .i64 x.sum)).set (k * 3 + 2) (.int .i64 x.birth))
      have HC2 := Lib.hid (show (((cs.set (k * 3) (.int .i64 x.at_)).set (k * 3 + 1) (.int .i64 x.sum)).set (k * 3 + 2) (.int .i64 x.birth)).length = 24 by simpa using hcl)
      have HT2 := Lib.hid (show (((cs.set (k * 3) (.int .i64 x.at_)).set (k * 3 + 1) (.int .i64 x.sum)).set (k * 3 + 2) (.int .i64 x.birth)).take ((k + 1) * 3) = pcs (ps.take (k + 1)) from by
        rw [take_set3 cs k _ _ _ (by omega), HT.out, List.take_succ_eq_append_getElem hl0, pcs_snoc, ← HX.out]
        rfl)
      have HB2 := Lib.hid (((HB1.out.setCell (p := ⟨w.heap.size + 1 + 1, k * 3, none⟩) (by simp; omega) (.int .i64 x.at_)).setCell (p := ⟨w.heap.size + 1 + 1, k * 3 + 1, none⟩) (by simp; omega) (.int .i64 x.sum)).setCell (p := ⟨w.heap.size + 1 + 1, k * 3 + 2, none⟩) (by simp; omega) (.int .i64 x.birth))
      clear h1 h2 h3 hb2 Y1 Y2 Y3 Z1 Z2 Z3 HB HB1 HC HT hcl
      go_wp2
      go_roundw
      case rel => exact ⟨k + 1, _, by omega, by go_num, V1, V2, V3, HC2, HT2, HB2⟩
      case measure => simp [intOf]; omega
    case neg =>
      have hk8 : k = 8 := by omega
      have HE := Lib.hid (show Box wr (w.heap.size + 1 + 1) (pcs ps) from by
        have h1 := HT.out
        have h2 := HC.out
        have h3 := H8.out
        rw [List.take_of_length_le (by omega), List.take_of_length_le (by omega)] at h1
        rw [← h1]; exact Y3.out)
      have HP := Lib.hid (Y2.out.putAll (pcs ps) (by rw [HL.out]; rfl))
      have HB3 := Lib.hid (putC_below HB.out (w.heap.size + 1) 0 (by omega) (pcs ps))
      clear hk8 HT HC Y1 Y3
      go_wp2_with (first | (refine wpList_load_box rfl _ rfl aggMap rfl (pcs ps) HL.out HE.out ?_) | (refine wpList_store_box rfl _ _ rfl rfl aggMap rfl (pcs ps) rfl HL.out (pcs_one ps) z24.toList Y2.out rfl ?_))
      refine bodyPost_ret (results_box rfl _ (w.heap.size + 1) (pcs ps) aggMap HL.out rfl HP.out) rfl ⟨rfl, HB3.out⟩
end Go.Proofs.YtojjenclcidnkaaGreatDoor

/-
  eqPtrA8 of eight pointers and themselves.
-/
set_option maxRecDepth 100000
namespace Go.Proofs.YtojjenclcidnkaaGreatDoor
open Go.ChangeShapes Go.WideShapes Go.ChangeAt Go.RowKit Go.Proofs.Palim

set_option maxHeartbeats 1000000 in
theorem eqPtrA8_same (ps : List PtrM) (w : World) (h8 : ps.length = 8) :
    Calls Tryz.prog 126 #[.agg (pcs ps).toArray, .agg (pcs ps).toArray] w fun e w' => e = .returned (.bool true) ∧ Below w.heap.size w w' := by
  have hnot : ∀ (x : Bool) (w : World), (Op.unary .not (.bool x)).run Tryz.prog w = .ok (.bool (!x)) w := fun _ _ => rfl
  have H8 := Lib.hid h8
  obtain ⟨b1, b2, hsz, hB⟩ := box2 w (pcs ps).toArray (pcs ps).toArray 68 68
  have X1 := Lib.hid b1
  have X2 := Lib.hid b2
  have B0 := Lib.hid hB
  clear b1 b2 hB h8 hsz
  go_enter Tryz.func126, Tryz.ntmps126
  go_wp2_with fail
  go_loopw [5] (fun i wr => ∃ (k : Nat), k ≤ 8 ∧ i = .int .i64 k ∧ Hid (Box wr w.heap.size (pcs ps)) ∧ Hid (Box wr (w.heap.size + 1) (pcs ps)) ∧ Hid (Below w.heap.size w wr)) (fun i _ => 8 - (intOf i).toNat)
  case atStart => exact ⟨0, Nat.zero_le _, rfl, X1, X2, B0⟩
  case round =>
    obtain ⟨k, hk, rfl, Y1, Y2, HB⟩ := hrel
    clear X1 X2 B0
    by_cases hlt : k < 8
    case pos =>
      have hk1 : (k : Int) < 8 := by omega
      have hl0 : k < ps.length := by rw [H8.out]; exact hlt
      obtain ⟨h1, h2, h3⟩ := ptr_box Y1.out k hl0
      obtain ⟨g1, g2, g3⟩ := ptr_box Y2.out k hl0
      have hx1 := Y1.out.lt
      have hx2 := Y2.out.lt
      generalize ps[k] = x at h1 h2 h3 g1 g2 g3
      go_wp2_with fail
      go_region_held3 (fun w' => w'.cell? ⟨w.heap.size, k * 3, none⟩ = some (.int .i64 x.at_) ∧ w'.cell? ⟨w.heap.size, k * 3 + 1, none⟩ = some (.int .i64 x.sum) ∧ w'.cell? ⟨w.heap.size, k * 3 + 2, none⟩ = some (.int .i64 x.birth) ∧ w'.cell? ⟨w.heap.size + 1, k * 3, none⟩ = some (.int .i64 x.at_) ∧ w'.cell? ⟨w.heap.size + 1, k * 3 + 1, none⟩ = some (.int .i64 x.sum) ∧ w'.cell? ⟨w.heap.size + 1, k * 3 + 2, none⟩ = some (.int .i64 x.birth))
        (first
          | exact ⟨h1, h2, h3, g1, g2, g3⟩
          | (go_split_ands
             refine ⟨?_, ?_, ?_, ?_, ?_, ?_⟩
             all_goals (rw [hb2.cell (by simp <;> omega)]; assumption)))
        ((go_at_call 86; ((with_reducible refine (eqPtr_same x _).mono ?_); rintro e w2 ⟨rfl, hb2⟩)))
      all_goals
        have hb3 := (Below.refl wr.heap.size wr).drew.trans hb2
        have Z1 := Lib.hid (Y1.out.below hb3 hx1)
        have Z2 := Lib.hid (Y2.out.below hb3 hx2)
        have HB2 := Lib.hid (HB.out.trans (hb3.mono HB.out.size))
        clear hb2 hb3 HB Y1 Y2 h1 h2 h3 g1 g2 g3
        go_wp2
        go_roundw
        case rel => exact ⟨k + 1, by omega, by go_num, Z1, Z2, HB2⟩
        case measure => simp [intOf]; omega
    case neg =>
      go_wp2
      go_ret
      exact ⟨rfl, HB.out⟩
end Go.Proofs.YtojjenclcidnkaaGreatDoor

/-
  The laws' own helpers on lists of pointers.
-/
set_option maxRecDepth 100000
namespace Go.Proofs.YtojjenclcidnkaaGreatDoor
open Go.ChangeShapes Go.WideShapes Go.ChangeAt Go.RowKit Go.Proofs.Palim

set_option maxHeartbeats 400000 in
theorem szPtrS_any (v : Value) (n : Nat) (xs : List Value) (left : Int) (w : World) (h : Sl w 3 v n xs) (h0 : 0 ≤ left) (h1 : left ≤ 1048576) :
    Calls Tryz.prog 49 #[v, .int .i64 left] w fun e w' => e = .returned (.int .i64 (if left < n then -1 else left - n)) ∧ Below w.heap.size w w' := by
  have hnm := h.le
  unfold maxLen at hnm
  obtain ⟨_, A, c, rfl, _, _, _⟩ := h
  by_cases hl : left < n
  · rw [if_pos hl]
    go_enter Tryz.func49, Tryz.ntmps49
    go_wp2
    go_ret
    exact ⟨rfl, Below.refl _ _⟩
  · rw [if_neg hl]
    go_enter Tryz.func49, Tryz.ntmps49
    go_wp2
    go_ret
    exact ⟨rfl, Below.refl _ _⟩

theorem infoPtr : (Tryz.prog.info? 67).map (fun i => (i.zero, i.size, i.bytes)) = some (some (.agg #[.int .i64 0, .int .i64 0, .int .i64 0]), 3, 24) := by kernel_rfl

/-- A new list of pointers of the call's own. -/
def NewPtrs (w : World) (ls : List PtrM) (e : Ending) (w' : World) : Prop :=
  ∃ v, e = .returned v ∧ w'.ownsRow w.heap.size 67 3 v ls.length (pcs ls) ∧ Below w.heap.size w w'

set_option maxHeartbeats 400000 in
theorem toPtrS_any (v : Value) (ls : List PtrM) (w : World) (h : Sl w 3 v ls.length (pcs ls)) (hv : ∀ b, v.ownBlock = some b → b < w.heap.size) (hs : ls.length ≤ 1048576) :
    Calls Tryz.prog 60 #[v] w (NewPtrs w ls) := by
  obtain ⟨i0, hi, hz0, hz1, hz2⟩ := info_parts infoPtr
  obtain ⟨n, HN⟩ : ∃ n, Hid (ls.length = n) := ⟨_, Lib.hid rfl⟩
  rw [HN.out] at h hs
  by_cases hn : n = 0
  · subst hn
    have HE := Lib.hid (List.length_eq_zero_iff.1 HN.out)
    obtain ⟨_, A, c, rfl, _, _, _⟩ := h
    clear hv
    go_enter Tryz.func60, Tryz.ntmps60
    go_wp2_with (first | (at_make; refine wpList_make_full _ rfl _ _ 43 rfl w.heap.size 67 i0 (.agg #[.int .i64 0, .int .i64 0, .int .i64 0]) 3 Tryz.underlying43 hi hz0 hz1 _ _ _ _ 0 rfl rfl (by omega) (by omega) (by omega) (by unfold maxLen; omega) (Nat.le_refl _) ?_))
    intro w1 hown hgrow
    go_wp2
    go_loopw [4] (fun i wr => i = .int .i64 0 ∧ wr = w1) (fun _ _ => 0)
    case atStart => exact ⟨rfl, rfl⟩
    case round =>
      obtain ⟨rfl, rfl⟩ := hrel
      go_wp2
      go_ret
      refine ⟨_, rfl, ?_, (Below.refl _ _).grown hgrow (Nat.le_refl _) (fun _ h => by cases h)⟩
      rw [HE.out]
      have h2 := hown
      rw [List.length_eq_zero_iff.1 (hown.1.trans (Nat.zero_mul _))] at h2
      exact h2
  · obtain ⟨b, off, c, rfl, hnc, hcm, hcell⟩ := h.form (by omega)
    have hbl : b < w.heap.size := hv b rfl
    have HC := Lib.hid hcell
    unfold maxLen at hcm
    clear hcell h hv
    go_enter Tryz.func60, Tryz.ntmps60
    go_wp2_with (first | (at_make; refine wpList_make_full _ rfl _ _ 43 rfl w.heap.size 67 i0 (.agg #[.int .i64 0, .int .i64 0, .int .i64 0]) 3 Tryz.underlying43 hi hz0 hz1 _ _ _ _ n rfl rfl rfl rfl (by rw [hz2]; omega) (by unfold maxLen; omega) (Nat.le_refl _) ?_))
    intro w1 hown hgrow
    go_wp2
    go_loopw [4] (fun i wr => ∃ (k : Nat) (xs : List Value), k ≤ n ∧ i = .int .i64 k ∧ Hid (wr.ownsRow w.heap.size 67 3 (.slice (some ⟨w.heap.size, 0, none⟩) n n) n xs) ∧ Hid (xs.take (k * 3) = pcs (ls.take k)) ∧ Hid (Below w.heap.size w wr)) (fun i _ => n - (intOf i).toNat)
    case atStart => exact ⟨0, _, Nat.zero_le _, rfl, Lib.hid hown, Lib.hid rfl, Lib.hid ((Below.refl _ _).grown hgrow (Nat.le_refl _) (fun _ h => by cases h))⟩
    case round =>
      obtain ⟨k, xs, hk, rfl, HO, HT, HB⟩ := hrel
      clear hown hgrow
      by_cases hlt : k < n
      · have hlt' : k < ls.length := by rw [HN.out]; exact hlt
        have hrd := ptr_read (fun j u hu => (HB.out.cell hbl).trans (HC.out j u hu)) k hlt'
        obtain ⟨x, HX⟩ : ∃ x, Hid (x = ls[k]) := ⟨_, Lib.hid rfl⟩
        rw [← HX.out] at hrd
        obtain ⟨h1, h2, h3⟩ := hrd
        go_wp2_with fail
        refine (toPtr_any x _).mono ?_
        rintro e w2 ⟨rfl, hb2⟩
        have HB1 := Lib.hid (HB.out.trans (hb2.mono HB.out.size))
        have HO1 := Lib.hid (own_kept HO.out (w' := w2) (fun b e => hb2.block b (by have := HO.out.lt b e; omega)))
        obtain ⟨⟨u0, _, hc0⟩, hf0, _, _⟩ := own_at HO1.out (k * 3) (by omega)
        obtain ⟨⟨u1, _, hc1⟩, hf1, _, _⟩ := own_at HO1.out (k * 3 + 1) (by omega)
        obtain ⟨⟨u2, _, hc2⟩, hf2, _, _⟩ := own_at HO1.out (k * 3 + 2) (by omega)
        have HO2 := Lib.hid (own_setN (own_setN (own_setN HO1.out (k * 3) (.int .i64 x.at_)) (k * 3 + 1) (.int .i64 x.sum)) (k * 3 + 2) (.int .i64 x.birth))
        have HB2 := Lib.hid (((HB1.out.setCell (p := ⟨w.heap.size, k * 3, none⟩) (Nat.le_refl _) (.int .i64 x.at_)).setCell (p := ⟨w.heap.size, k * 3 + 1, none⟩) (Nat.le_refl _) (.int .i64 x.sum)).setCell (p := ⟨w.heap.size, k * 3 + 2, none⟩) (Nat.le_refl _) (.int .i64 x.birth))
        have HT2 := Lib.hid (show (((xs.set (k * 3) (.int .i64 x.at_)).set (k * 3 + 1) (.int .i64 x.sum)).set (k * 3 + 2) (.int .i64 x.birth)).take ((k + 1) * 3) = pcs (ls.take (k + 1)) from by
          have hl : k * 3 + 2 < xs.length := by have := HO.out.1; omega
          rw [take_set3 xs k _ _ _ hl, HT.out, List.take_succ_eq_append_getElem hlt', pcs_snoc, ← HX.out]
          rfl)
        clear h1 h2 h3 hb2 HO HO1 HB HB1 HT
        go_wp2
        go_roundw
        case rel => exact ⟨k + 1, _, by omega, by go_num, HO2, HT2, HB2⟩
        case measure => simp [intOf]; omega
      · have hkn : k = n := by omega
        have HX := Lib.hid (show xs = pcs ls from by
          have hl := HO.out.1
          have ht := HT.out
          rw [List.take_of_length_le (by omega), List.take_of_length_le (by rw [HN.out]; omega)] at ht
          exact ht)
        clear hkn
        go_wp2
        go_ret
        refine ⟨_, rfl, ?_, HB.out⟩
        rw [HN.out, ← HX.out]
        exact HO.out

set_option maxHeartbeats 400000 in
theorem eqPtrS_same (va vb : Value) (ls : List PtrM) (w : World) (ha : Sl w 3 va ls.length (pcs ls)) (hb : Sl w 3 vb ls.length (pcs ls)) (hva : ∀ b, va.ownBlock = some b → b < w.heap.size) (hvb : ∀ b, vb.ownBlock = some b → b < w.heap.size) (hs : ls.length ≤ 1048576) :
    Calls Tryz.prog 35 #[va, vb] w fun e w' => e = .returned (.bool true) ∧ Below w.heap.size w w' := by
  obtain ⟨n, HN⟩ : ∃ n, Hid (ls.length = n) := ⟨_, Lib.hid rfl⟩
  rw [HN.out] at ha hb hs
  have hnot : ∀ (x : Bool) (w : World), (Op.unary .not (.bool x)).run Tryz.prog w = .ok (.bool (!x)) w := fun _ _ => rfl
  by_cases hn : n = 0
  · subst hn
    obtain ⟨_, A, c, rfl, _, _, _⟩ := ha
    obtain ⟨_, A', c', rfl, _, _, _⟩ := hb
    clear hva hvb
    go_enter Tryz.func35, Tryz.ntmps35
    go_wp2
    go_loopw [5] (fun i wr => i = .int .i64 0 ∧ wr = w) (fun _ _ => 0)
    case atStart => exact ⟨rfl, rfl⟩
    case round =>
      obtain ⟨rfl, rfl⟩ := hrel
      go_wp2
      go_ret
      exact ⟨rfl, Below.refl _ _⟩
  · obtain ⟨b, off, c, rfl, hnc, hcm, hcell⟩ := ha.form (by omega)
    obtain ⟨b', off', c', rfl, hnc', hcm', hcell'⟩ := hb.form (by omega)
    have hbl : b < w.heap.size := hva b rfl
    have hbl' : b' < w.heap.size := hvb b' rfl
    have HC := Lib.hid hcell
    have HC' := Lib.hid hcell'
    unfold maxLen at hcm hcm'
    clear hcell hcell' ha hb hva hvb
    go_enter Tryz.func35, Tryz.ntmps35
    go_wp2
    go_loopw [5] (fun i wr => ∃ (k : Nat), k ≤ n ∧ i = .int .i64 k ∧ Hid (Below w.heap.size w wr)) (fun i _ => n - (intOf i).toNat)
    case atStart => exact ⟨0, Nat.zero_le _, rfl, Lib.hid (Below.refl _ _)⟩
    case round =>
      obtain ⟨k, hk, rfl, HB⟩ := hrel
      by_cases hlt : k < n
      · have hlt' : k < ls.length := by rw [HN.out]; exact hlt
        have hrd := ptr_read (fun j u hu => (HB.out.cell hbl).trans (HC.out j u hu)) k hlt'
        have hrd' := ptr_read (fun j u hu => (HB.out.cell hbl').trans (HC'.out j u hu)) k hlt'
        generalize ls[k] = x at hrd hrd'
        obtain ⟨h1, h2, h3⟩ := hrd
        obtain ⟨h1', h2', h3'⟩ := hrd'
        have hk1 : (k : Int) < (n : Int) := by omega
        go_wp2_with fail
        go_region_held3 (fun w' => w'.cell? ⟨b, off + k * 3, none⟩ = some (.int .i64 x.at_) ∧ w'.cell? ⟨b, off + k * 3 + 1, none⟩ = some (.int .i64 x.sum) ∧ w'.cell? ⟨b, off + k * 3 + 2, none⟩ = some (.int .i64 x.birth) ∧ w'.cell? ⟨b', off' + k * 3, none⟩ = some (.int .i64 x.at_) ∧ w'.cell? ⟨b', off' + k * 3 + 1, none⟩ = some (.int .i64 x.sum) ∧ w'.cell? ⟨b', off' + k * 3 + 2, none⟩ = some (.int .i64 x.birth))
          (first
            | go_keep
            | (go_split_ands
               refine ⟨?_, ?_, ?_, ?_, ?_, ?_⟩
               all_goals (rw [hb2.cell (by have := HB.out.size; simp <;> omega)]; assumption)))
          ((go_at_call 86; ((with_reducible refine (eqPtr_same x _).mono ?_); rintro e w2 ⟨rfl, hb2⟩)))
        all_goals
          have HB2 := Lib.hid (HB.out.drew.trans (hb2.mono (by have := HB.out.size; simp; omega)))
          clear HB hb2 h1 h2 h3 h1' h2' h3'
          go_wp2
          go_roundw
          case rel => exact ⟨k + 1, by omega, by go_num, HB2⟩
          case measure => simp [intOf]; omega
      · go_wp2
        go_ret
        exact ⟨rfl, HB.out⟩
end Go.Proofs.YtojjenclcidnkaaGreatDoor

/-
  The laws' own helpers on lists of late writes.
-/
set_option maxRecDepth 100000
namespace Go.Proofs.YtojjenclcidnkaaGreatDoor
open Go.ChangeShapes Go.WideShapes Go.ChangeAt Go.RowKit Go.Proofs.Palim

/-- A late write, as plain data. -/
structure LateM where
  side : Int
  at_ : Int
  text : ByteArray
def lc (x : LateM) : List Value := [.int .i64 x.side, .int .i64 x.at_, .string x.text]
def lcs (ls : List LateM) : List Value := ls.flatMap lc
theorem lcs_length (ls : List LateM) : (lcs ls).length = ls.length * 3 := by
  induction ls with
  | nil => rfl
  | cons x ls ih => simp [lcs, lc] at ih ⊢; omega
theorem lcs_snoc (a : List LateM) (x : LateM) : lcs (a ++ [x]) = lcs a ++ lc x := by simp [lcs]
theorem lcs_at (ls : List LateM) : ∀ (k : Nat) (h : k < ls.length), (lcs ls)[k * 3]? = some (.int .i64 ls[k].side) ∧ (lcs ls)[k * 3 + 1]? = some (.int .i64 ls[k].at_) ∧ (lcs ls)[k * 3 + 2]? = some (.string ls[k].text) := by
  induction ls with
  | nil => intro k h; simp at h
  | cons x ls ih =>
    intro k h
    have e : lcs (x :: ls) = [.int .i64 x.side, .int .i64 x.at_, .string x.text] ++ lcs ls := by simp [lcs, lc]
    cases k with
    | zero => rw [e]; exact ⟨rfl, rfl, rfl⟩
    | succ k =>
      have := ih k (by simpa using h)
      rw [e, show (k + 1) * 3 = k * 3 + 3 by omega]
      rw [List.getElem?_append_right (by simp), List.getElem?_append_right (by simp <;> omega), List.getElem?_append_right (by simp <;> omega)]
      simp only [List.length_cons, List.length_nil, List.getElem_cons_succ]
      rw [show k * 3 + 3 - (0 + 1 + 1 + 1) = k * 3 by omega, show k * 3 + 3 + 1 - (0 + 1 + 1 + 1) = k * 3 + 1 by omega, show k * 3 + 3 + 2 - (0 + 1 + 1 + 1) = k * 3 + 2 by omega]
      exact this
theorem late_read {w : World} {ls : List LateM} {b off : Nat} (hc : ∀ j u, (lcs ls)[j]? = some u → w.cell? ⟨b, off + j, none⟩ = some u) (k : Nat) (h : k < ls.length) :
    w.cell? ⟨b, off + k * 3, none⟩ = some (.int .i64 ls[k].side) ∧ w.cell? ⟨b, off + k * 3 + 1, none⟩ = some (.int .i64 ls[k].at_) ∧ w.cell? ⟨b, off + k * 3 + 2, none⟩ = some (.string ls[k].text) := by
  have hat := lcs_at ls k h
  exact ⟨hc _ _ hat.1, by rw [Nat.add_assoc]; exact hc _ _ hat.2.1, by rw [Nat.add_assoc]; exact hc _ _ hat.2.2⟩
/-- As a value. -/
def lv (x : LateM) : Value := .agg #[.int .i64 x.side, .int .i64 x.at_, .string x.text]

set_option maxHeartbeats 400000 in
theorem toDiskLate_any (a b : Int) (s : ByteArray) (w : World) :
    Calls Tryz.prog 99 #[.agg #[.int .i64 a, .int .i64 b, .string s]] w fun e w' => e = .returned (.agg #[.int .i64 a, .int .i64 b, .string s]) ∧ Below w.heap.size w w' := by
  go_enter Tryz.func99, Tryz.ntmps99
  go_wp2
  refine bodyPost_ret (v := .agg #[.int .i64 a, .int .i64 b, .string s]) (by simp [results, Tryz.results99, go_sem]) rfl ⟨rfl, ?_⟩
  exact (((Below.refl _ _).alloc (Nat.le_refl _) _).alloc (by simp) _).alloc (by simp; omega) _

set_option maxHeartbeats 400000 in
theorem szDiskLate_any (a b : Int) (s : ByteArray) (left : Int) (w : World) (hs : s.size ≤ maxLen) (h0 : 0 ≤ left) (h1 : left ≤ 1048576) :
    Calls Tryz.prog 89 #[.agg #[.int .i64 a, .int .i64 b, .string s], .int .i64 left] w fun e w' => e = .returned (.int .i64 (if left < s.size then -1 else left - s.size)) ∧ Below w.heap.size w w' := by
  unfold maxLen at hs
  by_cases hl : left < s.size
  · rw [if_pos hl]
    go_enter Tryz.func89, Tryz.ntmps89
    go_wp2
    go_ret
    exact ⟨rfl, (Below.refl _ _).alloc (Nat.le_refl _) _⟩
  · rw [if_neg hl]
    go_enter Tryz.func89, Tryz.ntmps89
    go_wp2
    go_ret
    exact ⟨rfl, (Below.refl _ _).alloc (Nat.le_refl _) _⟩

set_option maxHeartbeats 400000 in
theorem eqDiskLate_same (a b : Int) (s : ByteArray) (w : World) :
    Calls Tryz.prog 110 #[.agg #[.int .i64 a, .int .i64 b, .string s], .agg #[.int .i64 a, .int .i64 b, .string s]] w fun e w' => e = .returned (.bool true) ∧ Below w.heap.size w w' := by
  go_enter Tryz.func110, Tryz.ntmps110
  go_wp2
  go_ret
  exact ⟨rfl, ((Below.refl _ _).alloc (Nat.le_refl _) _).alloc (by simp) _⟩

set_option maxHeartbeats 400000 in
theorem szDiskLateS_any (v : Value) (ls : List LateM) (left : Int) (w : World) (h : Sl w 3 v ls.length (lcs ls)) (hv : ∀ b, v.ownBlock = some b → b < w.heap.size) (hz : ∀ x ∈ ls, x.text.size ≤ maxLen) (h0 : 0 ≤ left) (h1 : left ≤ 1048576) :
    Calls Tryz.prog 46 #[v, .int .i64 left] w fun e w' => (∃ r : Int, e = .returned (.int .i64 r) ∧ (r = -1 ∨ 0 ≤ r ∧ r + ls.length + tot (ls.map (·.text)) = left)) ∧ Below w.heap.size w w' := by
  obtain ⟨n, HN⟩ : ∃ n, Hid (ls.length = n) := ⟨_, Lib.hid rfl⟩
  have HZ := Lib.hid hz
  clear hz
  rw [HN.out] at h
  have hnm := h.le
  unfold maxLen at hnm
  by_cases hbig : left < n
  · obtain ⟨_, A, c, rfl, _, _, _⟩ := h
    go_enter Tryz.func46, Tryz.ntmps46
    go_wp2
    go_ret
    exact ⟨⟨-1, rfl, Or.inl rfl⟩, Below.refl _ _⟩
  by_cases hn : n = 0
  · subst hn
    have HE := Lib.hid (List.length_eq_zero_iff.1 HN.out)
    obtain ⟨_, A, c, rfl, _, _, _⟩ := h
    clear hv
    go_enter Tryz.func46, Tryz.ntmps46
    go_wp2
    go_loop [1, 5] (fun l i => l = .int .i64 left ∧ i = .int .i64 0) (fun _ _ => 0)
    case atStart => exact ⟨rfl, rfl⟩
    case round =>
      obtain ⟨rfl, rfl⟩ := hrel
      go_wp2
      go_ret
      exact ⟨⟨left, rfl, Or.inr ⟨h0, by rw [HE.out]; simp [tot]⟩⟩, Below.refl _ _⟩
  · obtain ⟨b, off, c, rfl, hnc, hcm, hcell⟩ := h.form (by omega)
    have hbl : b < w.heap.size := hv b rfl
    have HC := Lib.hid hcell
    unfold maxLen at hcm
    clear hcell h hv
    go_enter Tryz.func46, Tryz.ntmps46
    go_wp2
    go_loopw [1, 5] (fun l i wr => ∃ (k : Nat) (r : Int), k ≤ n ∧ i = .int .i64 k ∧ l = .int .i64 r ∧ 0 ≤ r ∧ r ≤ left ∧ Hid (r + n + tot ((ls.take k).map (·.text)) = left) ∧ Hid (Below w.heap.size w wr)) (fun _ i _ => n - (intOf i).toNat)
    case atStart => exact ⟨0, left - n, Nat.zero_le _, rfl, rfl, by omega, by omega, Lib.hid (by simp [tot]), Lib.hid (Below.refl _ _)⟩
    case round =>
      obtain ⟨k, r, hk, rfl, rfl, hr0, hr1, HR, HB⟩ := hrel
      by_cases hlt : k < n
      · have hlt' : k < ls.length := by rw [HN.out]; exact hlt
        have hrd := late_read (fun j u hu => (HB.out.cell hbl).trans (HC.out j u hu)) k hlt'
        have HT := Lib.hid (show tot ((ls.take (k + 1)).map (·.text)) = tot ((ls.take k).map (·.text)) + ls[k].text.size from by rw [List.take_succ_eq_append_getElem hlt', List.map_append, List.map_cons, List.map_nil, tot_snoc])
        have HS := Lib.hid (HZ.out ls[k] (List.getElem_mem _))
        generalize ls[k] = x at hrd HT HS
        obtain ⟨xa, xb, xs⟩ := x
        obtain ⟨h1, h2, h3⟩ := hrd
        have hxs : xs.size ≤ maxLen := HS.out
        unfold maxLen at hxs
        go_wp2_with fail
        refine (szDiskLate_any xa xb xs r _ HS.out hr0 (by omega)).mono ?_
        rintro e w2 ⟨rfl, hb2⟩
        have HB2 := Lib.hid (HB.out.trans (hb2.mono HB.out.size))
        clear HB hb2 h1 h2 h3
        by_cases hneg : r < xs.size
        · rw [if_pos hneg]
          go_wp2
          go_ret
          exact ⟨⟨-1, rfl, Or.inl rfl⟩, HB2.out⟩
        · rw [if_neg hneg]
          go_wp2
          go_roundw
          case rel => exact ⟨k + 1, r - xs.size, by omega, by go_num, rfl, by omega, by omega, Lib.hid (by have h1 := HR.out; have h2 := HT.out; rw [h2]; omega), HB2⟩
          case measure => simp [intOf]; omega
      · have HK := Lib.hid (show ls.take k = ls from List.take_of_length_le (by rw [HN.out]; omega))
        go_wp2
        go_ret
        exact ⟨⟨r, rfl, Or.inr ⟨hr0, by have h1 := HR.out; rw [HK.out] at h1; rw [HN.out]; omega⟩⟩, HB.out⟩

theorem infoLate : (Tryz.prog.info? 147).map (fun i => (i.zero, i.size, i.bytes)) = some (some (.agg #[.int .i64 0, .int .i64 0, .string ⟨#[]⟩]), 3, 32) := by kernel_rfl

/-- A new list of late writes of the call's own. -/
def NewLates (w : World) (ls : List LateM) (e : Ending) (w' : World) : Prop :=
  ∃ v, e = .returned v ∧ w'.ownsRow w.heap.size 147 3 v ls.length (lcs ls) ∧ Below w.heap.size w w'

set_option maxHeartbeats 400000 in
theorem toDiskLateS_any (v : Value) (ls : List LateM) (w : World) (h : Sl w 3 v ls.length (lcs ls)) (hv : ∀ b, v.ownBlock = some b → b < w.heap.size) (hs : ls.length ≤ 1048576) :
    Calls Tryz.prog 57 #[v] w (NewLates w ls) := by
  obtain ⟨i0, hi, hz0, hz1, hz2⟩ := info_parts infoLate
  obtain ⟨n, HN⟩ : ∃ n, Hid (ls.length = n) := ⟨_, Lib.hid rfl⟩
  rw [HN.out] at h hs
  by_cases hn : n = 0
  · subst hn
    have HE := Lib.hid (List.length_eq_zero_iff.1 HN.out)
    obtain ⟨_, A, c, rfl, _, _, _⟩ := h
    clear hv
    go_enter Tryz.func57, Tryz.ntmps57
    go_wp2_with (first | (at_make; refine wpList_make_full _ rfl _ _ 38 rfl w.heap.size 147 i0 (.agg #[.int .i64 0, .int .i64 0, .string ⟨#[]⟩]) 3 Tryz.underlying38 hi hz0 hz1 _ _ _ _ 0 rfl rfl (by omega) (by omega) (by omega) (by unfold maxLen; omega) (Nat.le_refl _) ?_))
    intro w1 hown hgrow
    go_wp2
    go_loopw [4] (fun i wr => i = .int .i64 0 ∧ wr = w1) (fun _ _ => 0)
    case atStart => exact ⟨rfl, rfl⟩
    case round =>
      obtain ⟨rfl, rfl⟩ := hrel
      go_wp2
      go_ret
      refine ⟨_, rfl, ?_, (Below.refl _ _).grown hgrow (Nat.le_refl _) (fun _ h => by cases h)⟩
      rw [HE.out]
      have h2 := hown
      rw [List.length_eq_zero_iff.1 (hown.1.trans (Nat.zero_mul _))] at h2
      exact h2
  · obtain ⟨b, off, c, rfl, hnc, hcm, hcell⟩ := h.form (by omega)
    have hbl : b < w.heap.size := hv b rfl
    have HC := Lib.hid hcell
    unfold maxLen at hcm
    clear hcell h hv
    go_enter Tryz.func57, Tryz.ntmps57
    go_wp2_with (first | (at_make; refine wpList_make_full _ rfl _ _ 38 rfl w.heap.size 147 i0 (.agg #[.int .i64 0, .int .i64 0, .string ⟨#[]⟩]) 3 Tryz.underlying38 hi hz0 hz1 _ _ _ _ n rfl rfl rfl rfl (by rw [hz2]; omega) (by unfold maxLen; omega) (Nat.le_refl _) ?_))
    intro w1 hown hgrow
    go_wp2
    go_loopw [4] (fun i wr => ∃ (k : Nat) (xs : List Value), k ≤ n ∧ i = .int .i64 k ∧ Hid (wr.ownsRow w.heap.size 147 3 (.slice (some ⟨w.heap.size, 0, none⟩) n n) n xs) ∧ Hid (xs.take (k * 3) = lcs (ls.take k)) ∧ Hid (Below w.heap.size w wr)) (fun i _ => n - (intOf i).toNat)
    case atStart => exact ⟨0, _, Nat.zero_le _, rfl, Lib.hid hown, Lib.hid rfl, Lib.hid ((Below.refl _ _).grown hgrow (Nat.le_refl _) (fun _ h => by cases h))⟩
    case round =>
      obtain ⟨k, xs, hk, rfl, HO, HT, HB⟩ := hrel
      clear hown hgrow
      by_cases hlt : k < n
      · have hlt' : k < ls.length := by rw [HN.out]; exact hlt
        have hrd := late_read (fun j u hu => (HB.out.cell hbl).trans (HC.out j u hu)) k hlt'
        obtain ⟨x, HX⟩ : ∃ x, Hid (x = ls[k]) := ⟨_, Lib.hid rfl⟩
        rw [← HX.out] at hrd
        obtain ⟨h1, h2, h3⟩ := hrd
        go_wp2_with fail
        refine (toDiskLate_any x.side x.at_ x.text _).mono ?_
        rintro e w2 ⟨rfl, hb2⟩
        have HB1 := Lib.hid (HB.out.trans (hb2.mono HB.out.size))
        have HO1 := Lib.hid (own_kept HO.out (w' := w2) (fun b e => hb2.block b (by have := HO.out.lt b e; omega)))
        obtain ⟨⟨u0, _, hc0⟩, hf0, _, _⟩ := own_at HO1.out (k * 3) (by omega)
        obtain ⟨⟨u1, _, hc1⟩, hf1, _, _⟩ := own_at HO1.out (k * 3 + 1) (by omega)
        obtain ⟨⟨u2, _, hc2⟩, hf2, _, _⟩ := own_at HO1.out (k * 3 + 2) (by omega)
        have HO2 := Lib.hid (own_setN (own_setN (own_setN HO1.out (k * 3) (.int .i64 x.side)) (k * 3 + 1) (.int .i64 x.at_)) (k * 3 + 2) (.string x.text))
        have HB2 := Lib.hid (((HB1.out.setCell (p := ⟨w.heap.size, k * 3, none⟩) (Nat.le_refl _) (.int .i64 x.side)).setCell (p := ⟨w.heap.size, k * 3 + 1, none⟩) (Nat.le_refl _) (.int .i64 x.at_)).setCell (p := ⟨w.heap.size, k * 3 + 2, none⟩) (Nat.le_refl _) (.string x.text))
        have HT2 := Lib.hid (show (((xs.set (k * 3) (.int .i64 x.side)).set (k * 3 + 1) (.int .i64 x.at_)).set (k * 3 + 2) (.string x.text)).take ((k + 1) * 3) = lcs (ls.take (k + 1)) from by
          have hl : k * 3 + 2 < xs.length := by have := HO.out.1; omega
          rw [take_set3 xs k _ _ _ hl, HT.out, List.take_succ_eq_append_getElem hlt', lcs_snoc, ← HX.out]
          rfl)
        clear h1 h2 h3 hb2 HO HO1 HB HB1 HT
        go_wp2
        go_roundw
        case rel => exact ⟨k + 1, _, by omega, by go_num, HO2, HT2, HB2⟩
        case measure => simp [intOf]; omega
      · have hkn : k = n := by omega
        have HX := Lib.hid (show xs = lcs ls from by
          have hl := HO.out.1
          have ht := HT.out
          rw [List.take_of_length_le (by omega), List.take_of_length_le (by rw [HN.out]; omega)] at ht
          exact ht)
        clear hkn
        go_wp2
        go_ret
        refine ⟨_, rfl, ?_, HB.out⟩
        rw [HN.out, ← HX.out]
        exact HO.out

set_option maxHeartbeats 400000 in
theorem eqDiskLateS_same (va vb : Value) (ls : List LateM) (w : World) (ha : Sl w 3 va ls.length (lcs ls)) (hb : Sl w 3 vb ls.length (lcs ls)) (hva : ∀ b, va.ownBlock = some b → b < w.heap.size) (hvb : ∀ b, vb.ownBlock = some b → b < w.heap.size) (hs : ls.length ≤ 1048576) :
    Calls Tryz.prog 69 #[va, vb] w fun e w' => e = .returned (.bool true) ∧ Below w.heap.size w w' := by
  obtain ⟨n, HN⟩ : ∃ n, Hid (ls.length = n) := ⟨_, Lib.hid rfl⟩
  rw [HN.out] at ha hb hs
  have hnot : ∀ (x : Bool) (w : World), (Op.unary .not (.bool x)).run Tryz.prog w = .ok (.bool (!x)) w := fun _ _ => rfl
  by_cases hn : n = 0
  · subst hn
    obtain ⟨_, A, c, rfl, _, _, _⟩ := ha
    obtain ⟨_, A', c', rfl, _, _, _⟩ := hb
    clear hva hvb
    go_enter Tryz.func69, Tryz.ntmps69
    go_wp2
    go_loopw [5] (fun i wr => i = .int .i64 0 ∧ wr = w) (fun _ _ => 0)
    case atStart => exact ⟨rfl, rfl⟩
    case round =>
      obtain ⟨rfl, rfl⟩ := hrel
      go_wp2
      go_ret
      exact ⟨rfl, Below.refl _ _⟩
  · obtain ⟨b, off, c, rfl, hnc, hcm, hcell⟩ := ha.form (by omega)
    obtain ⟨b', off', c', rfl, hnc', hcm', hcell'⟩ := hb.form (by omega)
    have hbl : b < w.heap.size := hva b rfl
    have hbl' : b' < w.heap.size := hvb b' rfl
    have HC := Lib.hid hcell
    have HC' := Lib.hid hcell'
    unfold maxLen at hcm hcm'
    clear hcell hcell' ha hb hva hvb
    go_enter Tryz.func69, Tryz.ntmps69
    go_wp2
    go_loopw [5] (fun i wr => ∃ (k : Nat), k ≤ n ∧ i = .int .i64 k ∧ Hid (Below w.heap.size w wr)) (fun i _ => n - (intOf i).toNat)
    case atStart => exact ⟨0, Nat.zero_le _, rfl, Lib.hid (Below.refl _ _)⟩
    case round =>
      obtain ⟨k, hk, rfl, HB⟩ := hrel
      by_cases hlt : k < n
      · have hlt' : k < ls.length := by rw [HN.out]; exact hlt
        have hrd := late_read (fun j u hu => (HB.out.cell hbl).trans (HC.out j u hu)) k hlt'
        have hrd' := late_read (fun j u hu => (HB.out.cell hbl').trans (HC'.out j u hu)) k hlt'
        generalize ls[k] = x at hrd hrd'
        obtain ⟨h1, h2, h3⟩ := hrd
        obtain ⟨h1', h2', h3'⟩ := hrd'
        have hk1 : (k : Int) < (n : Int) := by omega
        go_wp2_with fail
        go_region_held3 (fun w' => w'.cell? ⟨b, off + k * 3, none⟩ = some (.int .i64 x.side) ∧ w'.cell? ⟨b, off + k * 3 + 1, none⟩ = some (.int .i64 x.at_) ∧ w'.cell? ⟨b, off + k * 3 + 2, none⟩ = some (.string x.text) ∧ w'.cell? ⟨b', off' + k * 3, none⟩ = some (.int .i64 x.side) ∧ w'.cell? ⟨b', off' + k * 3 + 1, none⟩ = some (.int .i64 x.at_) ∧ w'.cell? ⟨b', off' + k * 3 + 2, none⟩ = some (.string x.text))
          (first
            | go_keep
            | (go_split_ands
               refine ⟨?_, ?_, ?_, ?_, ?_, ?_⟩
               all_goals (rw [hb2.cell (by have := HB.out.size; simp <;> omega)]; assumption)))
          ((go_at_call 110; ((with_reducible refine (eqDiskLate_same x.side x.at_ x.text _).mono ?_); rintro e w2 ⟨rfl, hb2⟩)))
        all_goals
          have HB2 := Lib.hid (HB.out.drew.trans (hb2.mono (by have := HB.out.size; simp; omega)))
          clear HB hb2 h1 h2 h3 h1' h2' h3'
          go_wp2
          go_roundw
          case rel => exact ⟨k + 1, by omega, by go_num, HB2⟩
          case measure => simp [intOf]; omega
      · go_wp2
        go_ret
        exact ⟨rfl, HB.out⟩
end Go.Proofs.YtojjenclcidnkaaGreatDoor

/-
  Lists of late writes marked, and asked for the marks.
-/
set_option maxRecDepth 100000
namespace Go.Proofs.YtojjenclcidnkaaGreatDoor
open Go.ChangeShapes Go.WideShapes Go.ChangeAt Go.RowKit Go.Proofs.Palim

/-- The marks of late writes from k on. -/
def lmarks (k n : Nat) : List LateM := (List.range n).map fun i => ⟨((k + 3 * i : Nat) : Int), ((k + 3 * i + 1 : Nat) : Int), mkText (k + 3 * i + 2)⟩
theorem lmarks_length (k n : Nat) : (lmarks k n).length = n := by simp [lmarks]
theorem lmarks_succ (k n : Nat) : lmarks k (n + 1) = lmarks k n ++ [⟨((k + 3 * n : Nat) : Int), ((k + 3 * n + 1 : Nat) : Int), mkText (k + 3 * n + 2)⟩] := by simp [lmarks, List.range_succ]
theorem lmarks_at (k n i : Nat) (h' : i < (lmarks k n).length) : (lmarks k n)[i] = ⟨((k + 3 * i : Nat) : Int), ((k + 3 * i + 1 : Nat) : Int), mkText (k + 3 * i + 2)⟩ := by simp [lmarks]

def MarkedL (k : Nat) (v : Value) (base n : Nat) (w : World) (e : Ending) (w' : World) : Prop :=
  e = .returned (.int .i64 ((k + 3 * n : Nat) : Int)) ∧ w'.ownsRow base 147 3 v n (lcs (lmarks k n)) ∧ Turned (fun b => v.ownBlock = some b) w w'

end Go.Proofs.YtojjenclcidnkaaGreatDoor

/-
  Pairs of lists of strings: the laws' helpers.
-/
set_option maxRecDepth 100000
namespace Go.Proofs.YtojjenclcidnkaaGreatDoor
open Go.ChangeShapes Go.WideShapes Go.ChangeAt Go.RowKit Go.Proofs.Palim

def NewPair (w : World) (s0 s1 : List ByteArray) (e : Ending) (w' : World) : Prop :=
  ∃ u0 u1, e = .returned (.agg #[u0, u1]) ∧ w'.ownsRow w.heap.size 9 1 u0 s0.length (scs s0) ∧ w'.ownsRow w.heap.size 9 1 u1 s1.length (scs s1) ∧ Apart u0 u1 ∧ Below w.heap.size w w'

set_option maxHeartbeats 400000 in
theorem toStringSA2_any (v0 v1 : Value) (s0 s1 : List ByteArray) (w : World) (h0 : Sl w 1 v0 s0.length (scs s0)) (h1 : Sl w 1 v1 s1.length (scs s1)) (hv0 : ∀ b, v0.ownBlock = some b → b < w.heap.size) (hv1 : ∀ b, v1.ownBlock = some b → b < w.heap.size) (hs0 : s0.length ≤ 1048576) (hs1 : s1.length ≤ 1048576) :
    Calls Tryz.prog 56 #[.agg #[v0, v1]] w (NewPair w s0 s1) := by
  have H0 := Lib.hid h0
  have H1 := Lib.hid h1
  clear h0 h1
  have HV0 := Lib.hid hv0
  have HV1 := Lib.hid hv1
  clear hv0 hv1
  go_enter Tryz.func56, Tryz.ntmps56
  go_wp2
  go_loopw [4] (fun i wr => ∃ (j : Nat) (u0 u1 : Value), i = .int .i64 (j : Int) ∧
      Hid (Box wr w.heap.size [v0, v1]) ∧ Hid (Box wr (w.heap.size + 1) [.slice none 0 0, .slice none 0 0]) ∧ Hid (Box wr (w.heap.size + 1 + 1) [u0, u1]) ∧
      w.heap.size + 3 ≤ wr.heap.size ∧ Hid (Below w.heap.size w wr) ∧
      ((j = 0 ∧ u0 = .slice none 0 0 ∧ u1 = .slice none 0 0) ∨
       (j = 1 ∧ u1 = .slice none 0 0 ∧ Hid (wr.ownsRow (w.heap.size + 3) 9 1 u0 s0.length (scs s0))) ∨
       (j = 2 ∧ Hid (wr.ownsRow (w.heap.size + 3) 9 1 u0 s0.length (scs s0)) ∧ Hid (wr.ownsRow (w.heap.size + 3) 9 1 u1 s1.length (scs s1)) ∧ Hid (Apart u0 u1))))
      (fun i _ => 2 - (intOf i).toNat)
  case atStart =>
    exact ⟨0, _, _, rfl, Lib.hid (((box_new _ _ _).alloc _).alloc _), Lib.hid (Box.alloc (by simpa using box_new (w.alloc _) _ _) _), Lib.hid (by simpa using box_new ((w.alloc _).alloc _) _ _), by simp, Lib.hid (((((Below.refl _ _).alloc (Nat.le_refl _) _).alloc (by simp) _)).alloc (by simp <;> omega) _), Or.inl ⟨rfl, rfl, rfl⟩⟩
  case round =>
    obtain ⟨j, u0, u1, rfl, HA, HR, HU, hsz, HB, hcase⟩ := hrel
    obtain ⟨ha0, ha1⟩ := HA.out.two
    rcases hcase with ⟨rfl, rfl, rfl⟩ | ⟨rfl, rfl, HO0⟩ | ⟨rfl, HO0, HO1, HP⟩
    · go_wp2_with fail
      refine (toStringS_any v0 s0 _ (H0.out.below HB.out HV0.out) hs0).mono ?_
      rintro e w2 ⟨u, rfl, ho, hb⟩
      obtain ⟨_, A, c, rfl, _⟩ := sl_of_own ho
      have HA2 := Lib.hid (HA.out.below hb (by omega))
      have HR2 := Lib.hid (HR.out.below hb (by omega))
      have HU2 := Lib.hid (HU.out.below hb (by omega))
      have HO2 := Lib.hid (own_base ho hsz)
      have HB2 := Lib.hid (HB.out.trans (hb.mono (by omega)))
      have hsz2 : w.heap.size + 3 ≤ w2.heap.size := Nat.le_trans hsz hb.size
      clear ho hb HA HR HU HB hsz
      obtain ⟨hu0, hu1⟩ := HU2.out.two
      have hf := HU2.out.open_ 0
      go_wp2
      go_roundw
      case rel => exact ⟨1, _, _, by go_num, Lib.hid (HA2.out.other (by simp; omega) _), Lib.hid (HR2.out.other (by simp) _), Lib.hid (HU2.out.set 0 _), by simpa using hsz2, Lib.hid (HB2.out.setCell (by simp; omega) _), Or.inr (Or.inl ⟨rfl, rfl, Lib.hid (ownsRow_setCell_below HO2.out (by simp) _)⟩)⟩
      case measure => simp [intOf]
    · go_wp2_with fail
      refine (toStringS_any v1 s1 _ (H1.out.below HB.out HV1.out) hs1).mono ?_
      rintro e w2 ⟨u, rfl, ho, hb⟩
      obtain ⟨_, A, c, rfl, _⟩ := sl_of_own ho
      have HA2 := Lib.hid (HA.out.below hb (by omega))
      have HR2 := Lib.hid (HR.out.below hb (by omega))
      have HU2 := Lib.hid (HU.out.below hb (by omega))
      have HP2 := Lib.hid (show Apart u0 _ from fun g e e' => by have := (HO0.out.lt g e).2; have := (ho.lt g e').1; omega)
      have HO0' := Lib.hid (own_kept HO0.out (w' := w2) (fun b e => hb.block b (HO0.out.lt b e).2))
      have HO2 := Lib.hid (own_base ho hsz)
      have HB2 := Lib.hid (HB.out.trans (hb.mono (by omega)))
      have hsz2 : w.heap.size + 3 ≤ w2.heap.size := Nat.le_trans hsz hb.size
      clear ho hb HA HR HU HB hsz HO0
      obtain ⟨hu0, hu1⟩ := HU2.out.two
      have hf := HU2.out.open_ 1
      go_wp2
      go_roundw
      case rel => exact ⟨2, u0, _, by go_num, Lib.hid (HA2.out.other (by simp; omega) _), Lib.hid (HR2.out.other (by simp) _), Lib.hid (HU2.out.set 1 _), by simpa using hsz2, Lib.hid (HB2.out.setCell (by simp; omega) _), Or.inr (Or.inr ⟨rfl, Lib.hid (ownsRow_setCell_below HO0'.out (by simp) _), Lib.hid (ownsRow_setCell_below HO2.out (by simp) _), HP2⟩)⟩
      case measure => simp [intOf]
    · obtain ⟨_, A0, c0, rfl, _⟩ := sl_of_own HO0.out
      obtain ⟨_, A1, c1, rfl, _⟩ := sl_of_own HO1.out
      obtain ⟨hu0, hu1⟩ := HU.out.two
      obtain ⟨hr0, hr1⟩ := HR.out.two
      have hf0 := HR.out.open_ 0
      have hf1 := HR.out.open_ 1
      go_wp2
      obtain ⟨p0, _⟩ := (HR.out.set 0 (.slice A0 s0.length c0)).two
      obtain ⟨_, q1⟩ := ((HR.out.set 0 (.slice A0 s0.length c0)).set 1 (.slice A1 s1.length c1)).two
      refine bodyPost_ret (v := .agg #[.slice A0 s0.length c0, .slice A1 s1.length c1]) (by simp [results, Tryz.results56, go_sem, p0, q1]) rfl ⟨_, _, rfl, ?_, ?_, HP.out, ?_⟩
      · exact own_base (ownsRow_setCell_below (ownsRow_setCell_below HO0.out (by simp) _) (by simp) _) (by omega)
      · exact own_base (ownsRow_setCell_below (ownsRow_setCell_below HO1.out (by simp) _) (by simp) _) (by omega)
      · exact (HB.out.setCell (by simp) _).setCell (by simp) _
end Go.Proofs.YtojjenclcidnkaaGreatDoor

/-
  Pairs of lists of strings: compared, sized, marked, asked for marks.
-/
set_option maxRecDepth 100000
namespace Go.Proofs.YtojjenclcidnkaaGreatDoor
open Go.ChangeShapes Go.WideShapes Go.ChangeAt Go.RowKit Go.Proofs.Palim

set_option maxHeartbeats 400000 in
theorem eqStringSA2_same (a0 a1 b0 b1 : Value) (s0 s1 : List ByteArray) (w : World) (h0 : Sl w 1 a0 s0.length (scs s0)) (h1 : Sl w 1 a1 s1.length (scs s1)) (k0 : Sl w 1 b0 s0.length (scs s0)) (k1 : Sl w 1 b1 s1.length (scs s1))
    (ha0 : ∀ b, a0.ownBlock = some b → b < w.heap.size) (ha1 : ∀ b, a1.ownBlock = some b → b < w.heap.size) (hb0 : ∀ b, b0.ownBlock = some b → b < w.heap.size) (hb1 : ∀ b, b1.ownBlock = some b → b < w.heap.size) (hs0 : s0.length ≤ 1048576) (hs1 : s1.length ≤ 1048576) :
    Calls Tryz.prog 68 #[.agg #[a0, a1], .agg #[b0, b1]] w fun e w' => e = .returned (.bool true) ∧ Below w.heap.size w w' := by
  have hnot : ∀ (x : Bool) (w : World), (Op.unary .not (.bool x)).run Tryz.prog w = .ok (.bool (!x)) w := fun _ _ => rfl
  have H0 := Lib.hid h0
  have H1 := Lib.hid h1
  have K0 := Lib.hid k0
  have K1 := Lib.hid k1
  have HA0 := Lib.hid ha0
  have HA1 := Lib.hid ha1
  have HB0 := Lib.hid hb0
  have HB1 := Lib.hid hb1
  clear h0 h1 k0 k1 ha0 ha1 hb0 hb1
  go_enter Tryz.func68, Tryz.ntmps68
  go_wp2
  go_loopw [5] (fun i wr => ∃ (j : Nat), i = .int .i64 (j : Int) ∧ Hid (Box wr w.heap.size [a0, a1]) ∧ Hid (Box wr (w.heap.size + 1) [b0, b1]) ∧ Hid (Below w.heap.size w wr) ∧ (j = 0 ∨ j = 1 ∨ j = 2)) (fun i _ => 2 - (intOf i).toNat)
  case atStart => exact ⟨0, rfl, Lib.hid ((box_new _ _ _).alloc _), Lib.hid (by simpa using box_new (w.alloc _) _ _), Lib.hid (((Below.refl _ _).alloc (Nat.le_refl _) _).alloc (by simp) _), Or.inl rfl⟩
  case round =>
    obtain ⟨j, rfl, HA, HC, HB, hcase⟩ := hrel
    obtain ⟨x0, x1⟩ := HA.out.two
    obtain ⟨y0, y1⟩ := HC.out.two
    rcases hcase with rfl | rfl | rfl
    · have HS := Lib.hid (show Sl wr.drew 1 a0 s0.length (scs s0) from H0.out.below HB.out.drew HA0.out)
      have HT := Lib.hid (show Sl wr.drew 1 b0 s0.length (scs s0) from K0.out.below HB.out.drew HB0.out)
      go_wp2_with fail
      go_region_held3 (fun w' => w'.cell? ⟨w.heap.size, 0, none⟩ = some a0 ∧ w'.cell? ⟨w.heap.size + 1, 0, none⟩ = some b0)
        (first
          | go_keep
          | (go_split_ands; exact ⟨by assumption, by assumption⟩))
        ((go_at_call 109; ((refine (eqStringS_same a0 b0 s0 _ HS.out HT.out hs0).mono ?_); rintro e w2 ⟨rfl, q, rfl⟩)))
      all_goals
        go_wp2
        go_roundw
        case rel => exact ⟨1, by go_num, HA, HC, Lib.hid ⟨HB.out.os, HB.out.tape, HB.out.output, HB.out.size, HB.out.block⟩, by simp⟩
        case measure => simp [intOf]
    · have HS := Lib.hid (show Sl wr.drew 1 a1 s1.length (scs s1) from H1.out.below HB.out.drew HA1.out)
      have HT := Lib.hid (show Sl wr.drew 1 b1 s1.length (scs s1) from K1.out.below HB.out.drew HB1.out)
      go_wp2_with fail
      go_region_held3 (fun w' => w'.cell? ⟨w.heap.size, 1, none⟩ = some a1 ∧ w'.cell? ⟨w.heap.size + 1, 1, none⟩ = some b1)
        (first
          | go_keep
          | (go_split_ands; exact ⟨by assumption, by assumption⟩))
        ((go_at_call 109; ((refine (eqStringS_same a1 b1 s1 _ HS.out HT.out hs1).mono ?_); rintro e w2 ⟨rfl, q, rfl⟩)))
      all_goals
        go_wp2
        go_roundw
        case rel => exact ⟨2, by go_num, HA, HC, Lib.hid ⟨HB.out.os, HB.out.tape, HB.out.output, HB.out.size, HB.out.block⟩, by simp⟩
        case measure => simp [intOf]
    · go_wp2
      go_ret
      exact ⟨rfl, HB.out⟩

set_option maxHeartbeats 400000 in
theorem szStringSA2_any (a0 a1 : Value) (s0 s1 : List ByteArray) (left : Int) (w : World) (h0 : Sl w 1 a0 s0.length (scs s0)) (h1 : Sl w 1 a1 s1.length (scs s1)) (ha0 : ∀ b, a0.ownBlock = some b → b < w.heap.size) (ha1 : ∀ b, a1.ownBlock = some b → b < w.heap.size)
    (hz0 : ∀ s ∈ s0, s.size ≤ maxLen) (hz1 : ∀ s ∈ s1, s.size ≤ maxLen) (hl0 : 0 ≤ left) (hl1 : left ≤ 1048576) :
    Calls Tryz.prog 45 #[.agg #[a0, a1], .int .i64 left] w fun e w' => (∃ r : Int, e = .returned (.int .i64 r) ∧ (r = -1 ∨ 0 ≤ r ∧ r + (s0.length + tot s0 + (s1.length + tot s1) : Nat) = left)) ∧ Below w.heap.size w w' := by
  have H0 := Lib.hid h0
  have H1 := Lib.hid h1
  have HA0 := Lib.hid ha0
  have HA1 := Lib.hid ha1
  have HZ0 := Lib.hid hz0
  have HZ1 := Lib.hid hz1
  obtain ⟨m0, HM0⟩ : ∃ m, Hid (s0.length + tot s0 = m) := ⟨_, Lib.hid rfl⟩
  obtain ⟨m1, HM1⟩ : ∃ m, Hid (s1.length + tot s1 = m) := ⟨_, Lib.hid rfl⟩
  rw [HM0.out, HM1.out]
  clear h0 h1 ha0 ha1 hz0 hz1
  go_enter Tryz.func45, Tryz.ntmps45
  go_wp2
  go_loopw [1, 5] (fun x i wr => ∃ (j : Nat) (l : Int), x = .int .i64 l ∧ i = .int .i64 (j : Int) ∧ Hid (Box wr w.heap.size [a0, a1]) ∧ Hid (Below w.heap.size w wr) ∧ ((j = 0 ∧ l = left) ∨ (j = 1 ∧ 0 ≤ l ∧ l + m0 = left) ∨ (j = 2 ∧ 0 ≤ l ∧ l + (m0 + m1) = left))) (fun _ i _ => 2 - (intOf i).toNat)
  case atStart => exact ⟨0, left, rfl, rfl, Lib.hid (box_new _ _ _), Lib.hid ((Below.refl _ _).alloc (Nat.le_refl _) _), Or.inl ⟨rfl, rfl⟩⟩
  case round =>
    obtain ⟨j, l, rfl, rfl, HA, HB, hcase⟩ := hrel
    obtain ⟨x0, x1⟩ := HA.out.two
    have hlb : 0 ≤ l := by omega
    have hlc : l ≤ 1048576 := by omega
    rcases hcase with ⟨rfl, hl⟩ | ⟨rfl, _, hl⟩ | ⟨rfl, _, hl⟩
    · subst hl
      have hl := hl0
      have HS := Lib.hid (H0.out.below HB.out HA0.out)
      go_wp2_with fail
      refine (szStringS_any a0 s0 _ _ HS.out HZ0.out hlb hlc).mono ?_
      rintro e w2 ⟨r, rfl, rfl, hr⟩
      rw [HM0.out] at hr
      rcases hr with rfl | ⟨hr0, hr1⟩
      · clear HS HA hl
        go_wp2
        go_ret
        exact ⟨⟨-1, rfl, Or.inl rfl⟩, HB.out⟩
      · have hr2 : ¬ r < 0 := by omega
        go_wp2
        go_roundw
        case rel => exact ⟨1, r, rfl, by go_num, HA, HB, Or.inr (Or.inl ⟨rfl, by omega, by omega⟩)⟩
        case measure => simp [intOf]
    · 
      have HS := Lib.hid (H1.out.below HB.out HA1.out)
      go_wp2_with fail
      refine (szStringS_any a1 s1 l _ HS.out HZ1.out hlb hlc).mono ?_
      rintro e w2 ⟨r, rfl, rfl, hr⟩
      rw [HM1.out] at hr
      rcases hr with rfl | ⟨hr0, hr1⟩
      · clear HS HA hl
        go_wp2
        go_ret
        exact ⟨⟨-1, rfl, Or.inl rfl⟩, HB.out⟩
      · have hr2 : ¬ r < 0 := by omega
        go_wp2
        go_roundw
        case rel => exact ⟨2, r, rfl, by go_num, HA, HB, Or.inr (Or.inr ⟨rfl, by omega, by omega⟩)⟩
        case measure => simp [intOf]
    · go_wp2
      go_ret
      exact ⟨⟨l, rfl, Or.inr ⟨hlb, by omega⟩⟩, HB.out⟩
end Go.Proofs.YtojjenclcidnkaaGreatDoor

/-
  Pairs of lists of strings: marked, and asked for marks.
-/
set_option maxRecDepth 100000
namespace Go.Proofs.YtojjenclcidnkaaGreatDoor
open Go.ChangeShapes Go.WideShapes Go.ChangeAt Go.RowKit Go.Proofs.Palim

def MarkedPair (k : Nat) (v0 v1 : Value) (base n0 n1 : Nat) (w : World) (e : Ending) (w' : World) : Prop :=
  e = .returned (.int .i64 ((k + n0 + n1 : Nat) : Int)) ∧ w'.ownsRow base 9 1 v0 n0 (scs (marks k n0)) ∧ w'.ownsRow base 9 1 v1 n1 (scs (marks (k + n0) n1)) ∧ Turned (fun b => v0.ownBlock = some b ∨ v1.ownBlock = some b) w w'

end Go.Proofs.YtojjenclcidnkaaGreatDoor

/-
  Disks as values: what they read as, which of them a call owns, and the laws' helpers on them.
-/
set_option maxRecDepth 100000
namespace Go.Proofs.YtojjenclcidnkaaGreatDoor
open Go.ChangeShapes Go.WideShapes Go.ChangeAt Go.RowKit Go.Proofs.Palim

structure DiskM where
  s0 : List ByteArray
  s1 : List ByteArray
  late : List LateM

/-- The block of a value lies below B. -/
def Low (B : Nat) (v : Value) : Prop := ∀ b, v.ownBlock = some b → b < B
theorem Low.mono {B B' : Nat} {v : Value} (h : Low B v) (hB : B ≤ B') : Low B' v := fun b e => Nat.lt_of_lt_of_le (h b e) hB
theorem low_of_own {w : World} {base e sz n : Nat} {v : Value} {xs : List Value} (h : w.ownsRow base e sz v n xs) : Low w.heap.size v := fun b e => (h.lt b e).2

/-- Three slices that read as a disk. -/
structure DiskR (w : World) (v0 v1 vl : Value) (d : DiskM) : Prop where
  r0 : Sl w 1 v0 d.s0.length (scs d.s0)
  r1 : Sl w 1 v1 d.s1.length (scs d.s1)
  rl : Sl w 3 vl d.late.length (lcs d.late)
  l0 : Low w.heap.size v0
  l1 : Low w.heap.size v1
  ll : Low w.heap.size vl
theorem DiskR.below {w w' : World} {v0 v1 vl : Value} {d : DiskM} (h : DiskR w v0 v1 vl d) (hb : Below w.heap.size w w') : DiskR w' v0 v1 vl d :=
  ⟨h.r0.below hb h.l0, h.r1.below hb h.l1, h.rl.below hb h.ll, h.l0.mono hb.size, h.l1.mono hb.size, h.ll.mono hb.size⟩
/-- Three slices of the call's own, apart from one another, that read as a disk. -/
structure DiskOwn (w : World) (base : Nat) (v0 v1 vl : Value) (d : DiskM) : Prop where
  o0 : w.ownsRow base 9 1 v0 d.s0.length (scs d.s0)
  o1 : w.ownsRow base 9 1 v1 d.s1.length (scs d.s1)
  ol : w.ownsRow base 147 3 vl d.late.length (lcs d.late)
  p01 : Apart v0 v1
  p0l : Apart v0 vl
  p1l : Apart v1 vl
theorem DiskOwn.reads {w : World} {base : Nat} {v0 v1 vl : Value} {d : DiskM} (h : DiskOwn w base v0 v1 vl d) : DiskR w v0 v1 vl d :=
  ⟨sl_of_own h.o0, sl_of_own h.o1, sl_of_own h.ol, low_of_own h.o0, low_of_own h.o1, low_of_own h.ol⟩
theorem DiskOwn.kept {w w' : World} {base : Nat} {v0 v1 vl : Value} {d : DiskM} (h : DiskOwn w base v0 v1 vl d) (hb : ∀ b, b < w.heap.size → base ≤ b → w'.heap[b]? = w.heap[b]?) : DiskOwn w' base v0 v1 vl d :=
  ⟨own_kept h.o0 fun b e => hb b (h.o0.lt b e).2 (h.o0.lt b e).1, own_kept h.o1 fun b e => hb b (h.o1.lt b e).2 (h.o1.lt b e).1, own_kept h.ol fun b e => hb b (h.ol.lt b e).2 (h.ol.lt b e).1, h.p01, h.p0l, h.p1l⟩
theorem DiskOwn.below {w w' : World} {base : Nat} {v0 v1 vl : Value} {d : DiskM} (h : DiskOwn w base v0 v1 vl d) (hb : Below w.heap.size w w') : DiskOwn w' base v0 v1 vl d := h.kept fun b hb' _ => hb.block b hb'
theorem DiskOwn.base {w : World} {base base' : Nat} {v0 v1 vl : Value} {d : DiskM} (h : DiskOwn w base v0 v1 vl d) (hb : base' ≤ base) : DiskOwn w base' v0 v1 vl d :=
  ⟨own_base h.o0 hb, own_base h.o1 hb, own_base h.ol hb, h.p01, h.p0l, h.p1l⟩
/-- Short enough for the laws. -/
structure DiskShort (d : DiskM) : Prop where
  n0 : d.s0.length ≤ 1048576
  n1 : d.s1.length ≤ 1048576
  nl : d.late.length ≤ 1048576
  z0 : ∀ s ∈ d.s0, s.size ≤ 1048576
  z1 : ∀ s ∈ d.s1, s.size ≤ 1048576
  zl : ∀ x ∈ d.late, x.text.size ≤ 1048576

theorem own4 {w : World} {base e sz n : Nat} {v : Value} {xs : List Value} (h : w.ownsRow base e sz v n xs) {a b c d : Addr} {x y z u : Value} (ha : a.block < base) (hb : b.block < base) (hc : c.block < base) (hd : d.block < base) :
    ((((w.setCell a x).setCell b y).setCell c z).setCell d u).ownsRow base e sz v n xs :=
  ownsRow_setCell_below (ownsRow_setCell_below (ownsRow_setCell_below (ownsRow_setCell_below h ha _) hb _) hc _) hd _

def NewDisk (w : World) (d : DiskM) (e : Ending) (w' : World) : Prop :=
  ∃ v0 v1 vl, e = .returned (.agg #[v0, v1, vl]) ∧ DiskOwn w' w.heap.size v0 v1 vl d ∧ Below w.heap.size w w'

set_option maxHeartbeats 400000 in
theorem toDisk_any (v0 v1 vl : Value) (d : DiskM) (w : World) (h : DiskR w v0 v1 vl d) (hs : DiskShort d) :
    Calls Tryz.prog 21 #[.agg #[v0, v1, vl]] w (NewDisk w d) := by
  have HD := Lib.hid h
  have HS := Lib.hid hs
  clear h hs
  go_enter Tryz.func21, Tryz.ntmps21
  go_wp2_with fail
  obtain ⟨hA, hR, hU, hsz, hB⟩ := box3 w #[v0, v1, vl] #[.slice none 0 0, .slice none 0 0, .slice none 0 0] #[.slice none 0 0, .slice none 0 0, .slice none 0 0] 26 40 40
  have HD1 := Lib.hid (HD.out.below hB)
  refine (toStringSA2_any v0 v1 d.s0 d.s1 _ HD1.out.r0 HD1.out.r1 HD1.out.l0 HD1.out.l1 HS.out.n0 HS.out.n1).mono ?_
  rintro e w2 ⟨u0, u1, rfl, ho0, ho1, hp, hb⟩
  have HA := Lib.hid (hA.below hb (by omega))
  have HR := Lib.hid (hR.below hb (by omega))
  have HU := Lib.hid (hU.below hb (by omega))
  have HB := Lib.hid (hB.trans (hb.mono (by omega)))
  have HD2 := Lib.hid (HD1.out.below hb)
  have hsz2 : w.heap.size + 3 ≤ w2.heap.size := by have := hb.size; omega
  obtain ⟨_, A0, c0, rfl, _⟩ := sl_of_own ho0
  obtain ⟨_, A1, c1, rfl, _⟩ := sl_of_own ho1
  have HO0 := Lib.hid (own_base ho0 (base' := w.heap.size + 3) (by omega))
  have HO1 := Lib.hid (own_base ho1 (base' := w.heap.size + 3) (by omega))
  have HP := Lib.hid hp
  clear ho0 ho1 hp hb hA hR hU hB HD1 hsz
  obtain ⟨x0, x1, x2⟩ := HA.out.three
  obtain ⟨y0, y1, y2⟩ := HU.out.three
  have f0 := HU.out.open_ 0
  have f1 := HU.out.open_ 1
  go_wp2_with fail
  have hu3 := (HU.out.set 0 (.slice A0 d.s0.length c0)).set 1 (.slice A1 d.s1.length c1)
  have hr3 := (HR.out.other (p := ⟨w.heap.size + 1 + 1, 0, none⟩) (by simp) (.slice A0 d.s0.length c0)).other (p := ⟨w.heap.size + 1 + 1, 1, none⟩) (by simp) (.slice A1 d.s1.length c1)
  have hb3 := (HB.out.setCell (p := ⟨w.heap.size + 1 + 1, 0, none⟩) (by simp; omega) (.slice A0 d.s0.length c0)).setCell (p := ⟨w.heap.size + 1 + 1, 1, none⟩) (by simp; omega) (.slice A1 d.s1.length c1)
  have ho0 := ownsRow_setCell_below (ownsRow_setCell_below HO0.out (a := ⟨w.heap.size + 1 + 1, 0, none⟩) (by simp) (.slice A0 d.s0.length c0)) (a := ⟨w.heap.size + 1 + 1, 1, none⟩) (by simp) (.slice A1 d.s1.length c1)
  have ho1 := ownsRow_setCell_below (ownsRow_setCell_below HO1.out (a := ⟨w.heap.size + 1 + 1, 0, none⟩) (by simp) (.slice A0 d.s0.length c0)) (a := ⟨w.heap.size + 1 + 1, 1, none⟩) (by simp) (.slice A1 d.s1.length c1)
  have hsz3 : w.heap.size + 3 ≤ ((w2.setCell ⟨w.heap.size + 1 + 1, 0, none⟩ (.slice A0 d.s0.length c0)).setCell ⟨w.heap.size + 1 + 1, 1, none⟩ (.slice A1 d.s1.length c1)).heap.size := by simpa using hsz2
  refine (toDiskLateS_any vl d.late _ (HD.out.rl.below hb3 HD.out.ll) (HD.out.ll.mono hb3.size) HS.out.nl).mono ?_
  rintro e w3 ⟨ul, rfl, hol, hb⟩
  have HR3 := Lib.hid (hr3.below hb (by omega))
  have HU3 := Lib.hid (hu3.below hb (by omega))
  have HB3 := Lib.hid (hb3.trans (hb.mono (by omega)))
  have HP0 := Lib.hid (show Apart _ ul from fun g e e' => by have := (ho0.lt g e).2; have := (hol.lt g e').1; omega)
  have HP1 := Lib.hid (show Apart _ ul from fun g e e' => by have := (ho1.lt g e).2; have := (hol.lt g e').1; omega)
  have HO0' := Lib.hid (own_kept ho0 (w' := w3) (fun b e => hb.block b (ho0.lt b e).2))
  have HO1' := Lib.hid (own_kept ho1 (w' := w3) (fun b e => hb.block b (ho1.lt b e).2))
  have HOL := Lib.hid (own_base hol (base' := w.heap.size + 3) hsz3)
  obtain ⟨_, Al, cl, rfl, _⟩ := sl_of_own hol
  clear hu3 hr3 hb3 ho0 ho1 hsz3 hol hb HO0 HO1 HA HR HU HB HD2 hsz2 x0 x1 x2 y0 y1 y2 f0 f1
  obtain ⟨y0, y1, y2⟩ := HU3.out.three
  obtain ⟨z0, z1, z2⟩ := HR3.out.three
  have f2 := HU3.out.open_ 2
  have g0 := HR3.out.open_ 0
  have g1 := HR3.out.open_ 1
  have g2 := HR3.out.open_ 2
  go_wp2
  have q1 := (HR3.out.other (p := ⟨w.heap.size + 1 + 1, 2, none⟩) (by simp) (.slice Al d.late.length cl)).set 0 (.slice A0 d.s0.length c0)
  have q2 := q1.set 1 (.slice A1 d.s1.length c1)
  have q3 := q2.set 2 (.slice Al d.late.length cl)
  refine bodyPost_ret (v := .agg #[.slice A0 d.s0.length c0, .slice A1 d.s1.length c1, .slice Al d.late.length cl]) (by simp [results, Tryz.results21, go_sem, q1.cell 0 rfl, q2.cell 1 rfl, q3.cell 2 rfl]) rfl ⟨_, _, _, rfl, ?_, ?_⟩
  · exact ⟨own_base (own4 HO0'.out (by simp) (by simp) (by simp) (by simp)) (by omega), own_base (own4 HO1'.out (by simp) (by simp) (by simp) (by simp)) (by omega), own_base (own4 HOL.out (by simp) (by simp) (by simp) (by simp)) (by omega), HP.out, HP0.out, HP1.out⟩
  · exact (((HB3.out.setCell (by simp; omega) _).setCell (by simp) _).setCell (by simp) _).setCell (by simp) _
end Go.Proofs.YtojjenclcidnkaaGreatDoor

/-
  Sets of the core as data; the laws' helpers on one set.
-/
set_option maxRecDepth 100000
namespace Go.Proofs.Palim
open Go
theorem Box.part {w : World} {g : Nat} {p m q : List Value} (h : Box w g (p ++ m ++ q)) (n : Nat) (hn : p.length = n) : ∀ j u, m[j]? = some u → w.cell? ⟨g, n + j, none⟩ = some u := by
  intro j u hu
  subst hn
  refine h.cell _ ?_
  have hj := (List.getElem?_eq_some_iff.1 hu).1
  rw [List.append_assoc, List.getElem?_append_right (by omega), Nat.add_sub_cancel_left, List.getElem?_append_left hj]
  exact hu
theorem Box.mid {w : World} {g : Nat} {p old q : List Value} (h : Box w g (p ++ old ++ q)) (vs : List Value) (n : Nat) (hn : p.length = n) (hl : old.length = vs.length) : Box (putC w g n vs) g (p ++ vs ++ q) := by
  subst hn; exact Box.putC_mid vs w g p old q h hl
theorem Box.may_mid {w : World} {g : Nat} {p old q : List Value} (h : Box w g (p ++ old ++ q)) (n k : Nat) (hn : p.length = n) (hl : old.length = k) : ∀ j, j < k → (∃ u, w.cell? ⟨g, n + 0 + j, none⟩ = some u) ∧ w.frozen? ⟨g, n + 0 + j, none⟩ = false :=
  h.may n k (by simp; omega)
end Go.Proofs.Palim
namespace Go.Proofs.YtojjenclcidnkaaGreatDoor
open Go.ChangeShapes Go.WideShapes Go.ChangeAt Go.RowKit Go.Proofs.Palim

/-- A set of the core, as plain data. -/
structure CSetM where
  name : ByteArray
  kind : Int
  frm : ByteArray
  map : List PtrM
  home : PtrM
  dirty : Bool
  h8 : map.length = 8
/-- Its cells. -/
def ch (x : CSetM) : List Value := [.string x.name, .int .i64 x.kind, .string x.frm]
def cc (x : CSetM) : List Value := ch x ++ pcs x.map ++ (pc x.home ++ [.bool x.dirty])
theorem cmap_len (x : CSetM) : (pcs x.map).length = 24 := by rw [pcs_length, x.h8]
theorem cc_length (x : CSetM) : (cc x).length = 31 := by simp [cc, ch, pc, cmap_len]
theorem cc_one (x : CSetM) : ∀ v ∈ cc x, v.oneCell' = true := by
  intro v hv
  rcases List.mem_append.1 hv with hv | hv
  · rcases List.mem_append.1 hv with hv | hv
    · simp [ch] at hv
      rcases hv with rfl | rfl | rfl <;> rfl
    · exact pcs_one _ v hv
  · simp [pc] at hv
    rcases hv with rfl | rfl | rfl | rfl <;> rfl
theorem cc_home (x : CSetM) : cc x = (ch x ++ pcs x.map) ++ pc x.home ++ [.bool x.dirty] := by simp [cc]
theorem chm_len (x : CSetM) : (ch x ++ pcs x.map).length = 27 := by simp [ch, cmap_len]
theorem ccBox {w : World} {g : Nat} {x : CSetM} (h : Box w g (cc x)) : w.cell? ⟨g, 0, none⟩ = some (.string x.name) ∧ w.cell? ⟨g, 1, none⟩ = some (.int .i64 x.kind) ∧ w.cell? ⟨g, 2, none⟩ = some (.string x.frm) ∧ w.cell? ⟨g, 27, none⟩ = some (.int .i64 x.home.at_) ∧ w.cell? ⟨g, 28, none⟩ = some (.int .i64 x.home.sum) ∧ w.cell? ⟨g, 29, none⟩ = some (.int .i64 x.home.birth) ∧ w.cell? ⟨g, 30, none⟩ = some (.bool x.dirty) := by
  have hh := Box.part (p := ch x ++ pcs x.map) (m := pc x.home ++ [.bool x.dirty]) (q := []) (by simpa [cc] using h) 27 (chm_len x)
  exact ⟨h.cell 0 rfl, h.cell 1 rfl, h.cell 2 rfl, hh 0 _ rfl, hh 1 _ rfl, hh 2 _ rfl, hh 3 _ rfl⟩
theorem aggSetL : Agg Tryz.prog 145 31 := ⟨Tryz.isAgg145, Tryz.sizeOf145⟩
theorem aggSet : Agg Tryz.prog 70 31 := ⟨Tryz.isAgg70, Tryz.sizeOf70⟩
theorem aggPtrI : Agg Tryz.prog 67 3 := ⟨Tryz.isAgg67, Tryz.sizeOf67⟩
theorem pc_one (p : PtrM) : ∀ v ∈ pc p, v.oneCell' = true := by
  intro v hv
  simp [pc] at hv
  rcases hv with rfl | rfl | rfl <;> rfl

set_option maxHeartbeats 2000000 in
theorem toCoreSet_any (x : CSetM) (w : World) :
    Calls Tryz.prog 100 #[.agg (cc x).toArray] w fun e w' => e = .returned (.agg (cc x).toArray) ∧ Below w.heap.size w w' := by
  obtain ⟨b1, b2, b3, hsz, hB⟩ := box3 w (cc x).toArray #[.string ⟨#[]⟩, .int .i64 0, .string ⟨#[]⟩, .int .i64 0, .int .i64 0, .int .i64 0, .int .i64 0, .int .i64 0, .int .i64 0, .int .i64 0, .int .i64 0, .int .i64 0, .int .i64 0, .int .i64 0, .int .i64 0, .int .i64 0, .int .i64 0, .int .i64 0, .int .i64 0, .int .i64 0, .int .i64 0, .int .i64 0, .int .i64 0, .int .i64 0, .int .i64 0, .int .i64 0, .int .i64 0, .int .i64 0, .int .i64 0, .int .i64 0, .bool false] #[.string ⟨#[]⟩, .int .i64 0, .string ⟨#[]⟩, .int .i64 0, .int .i64 0, .int .i64 0, .int .i64 0, .int .i64 0, .int .i64 0, .int .i64 0, .int .i64 0, .int .i64 0, .int .i64 0, .int .i64 0, .int .i64 0, .int .i64 0, .int .i64 0, .int .i64 0, .int .i64 0, .int .i64 0, .int .i64 0, .int .i64 0, .int .i64 0, .int .i64 0, .int .i64 0, .int .i64 0, .int .i64 0, .int .i64 0, .int .i64 0, .int .i64 0, .bool false] 145 70 70
  have X1 := Lib.hid b1
  have X2 := Lib.hid b2
  have X3 := Lib.hid b3
  have B0 := Lib.hid hB
  clear b1 b2 b3 hB hsz
  go_enter Tryz.func100, Tryz.ntmps100
  go_upto_region 2 with fail
  generalize ((w.alloc (.cells (cc x).toArray 145)).alloc (.cells #[.string ⟨#[]⟩, .int .i64 0, .string ⟨#[]⟩, .int .i64 0, .int .i64 0, .int .i64 0, .int .i64 0, .int .i64 0, .int .i64 0, .int .i64 0, .int .i64 0, .int .i64 0, .int .i64 0, .int .i64 0, .int .i64 0, .int .i64 0, .int .i64 0, .int .i64 0, .int .i64 0, .int .i64 0, .int .i64 0, .int .i64 0, .int .i64 0, .int .i64 0, .int .i64 0, .int .i64 0, .int .i64 0, .int .i64 0, .int .i64 0, .int .i64 0, .bool false] 70)).alloc (.cells #[.string ⟨#[]⟩, .int .i64 0, .string ⟨#[]⟩, .int .i64 0, .int .i64 0, .int .i64 0, .int .i64 0, .int .i64 0, .int .i64 0, .int .i64 0, .int .i64 0, .int .i64 0, .int .i64 0, .int .i64 0, .int .i64 0, .int .i64 0, .int .i64 0, .int .i64 0, .int .i64 0, .int .i64 0, .int .i64 0, .int .i64 0, .int .i64 0, .int .i64 0, .int .i64 0, .int .i64 0, .int .i64 0, .int .i64 0, .int .i64 0, .int .i64 0, .bool false] 70) = W at X1 X2 X3 B0 ⊢
  obtain ⟨n0, n1, n2, -, -, -, -⟩ := ccBox (x := x) X1.out
  have c0 := X3.out.cell 0 rfl
  have c1 := X3.out.cell 1 rfl
  have c2 := X3.out.cell 2 rfl
  have f0 := X3.out.open_ 0
  have f1 := X3.out.open_ 1
  have f2 := X3.out.open_ 2
  have Y1 := Lib.hid (((X1.out.other (p := ⟨w.heap.size + 1 + 1, 0, none⟩) (by simp; omega) (.string x.name)).other (p := ⟨w.heap.size + 1 + 1, 1, none⟩) (by simp; omega) (.int .i64 x.kind)).other (p := ⟨w.heap.size + 1 + 1, 2, none⟩) (by simp; omega) (.string x.frm))
  have Y2 := Lib.hid (((X2.out.other (p := ⟨w.heap.size + 1 + 1, 0, none⟩) (by simp) (.string x.name)).other (p := ⟨w.heap.size + 1 + 1, 1, none⟩) (by simp) (.int .i64 x.kind)).other (p := ⟨w.heap.size + 1 + 1, 2, none⟩) (by simp) (.string x.frm))
  have Y3 := Lib.hid (show Box (((W.setCell ⟨w.heap.size + 1 + 1, 0, none⟩ (.string x.name)).setCell ⟨w.heap.size + 1 + 1, 1, none⟩ (.int .i64 x.kind)).setCell ⟨w.heap.size + 1 + 1, 2, none⟩ (.string x.frm)) (w.heap.size + 1 + 1) (ch x ++ [.int .i64 0, .int .i64 0, .int .i64 0, .int .i64 0, .int .i64 0, .int .i64 0, .int .i64 0, .int .i64 0, .int .i64 0, .int .i64 0, .int .i64 0, .int .i64 0, .int .i64 0, .int .i64 0, .int .i64 0, .int .i64 0, .int .i64 0, .int .i64 0, .int .i64 0, .int .i64 0, .int .i64 0, .int .i64 0, .int .i64 0, .int .i64 0] ++ [.int .i64 0, .int .i64 0, .int .i64 0, .bool false]) from ((X3.out.set 0 (.string x.name)).set 1 (.int .i64 x.kind)).set 2 (.string x.frm))
  have B1 := Lib.hid (((B0.out.setCell (p := ⟨w.heap.size + 1 + 1, 0, none⟩) (by simp; omega) (.string x.name)).setCell (p := ⟨w.heap.size + 1 + 1, 1, none⟩) (by simp; omega) (.int .i64 x.kind)).setCell (p := ⟨w.heap.size + 1 + 1, 2, none⟩) (by simp; omega) (.string x.frm))
  clear X1 X2 X3 B0
  go_upto_region 5 with fail
  generalize ((W.setCell ⟨w.heap.size + 1 + 1, 0, none⟩ (.string x.name)).setCell ⟨w.heap.size + 1 + 1, 1, none⟩ (.int .i64 x.kind)).setCell ⟨w.heap.size + 1 + 1, 2, none⟩ (.string x.frm) = W1 at Y1 Y2 Y3 B1 ⊢
  clear n0 n1 n2 c0 c1 c2 f0 f1 f2
  go_wp2_with (refine wpList_load_cs rfl _ rfl aggMapL rfl (pcs x.map) (cmap_len x) (Box.part (p := ch x) (m := pcs x.map) (q := pc x.home ++ [.bool x.dirty]) Y1.out 3 rfl) ?_)
  refine (toPtrA8_any x.map _ x.h8).mono ?_
  rintro e w2 ⟨rfl, hb⟩
  have Z1 := Lib.hid (Y1.out.below hb Y1.out.lt)
  have Z2 := Lib.hid (Y2.out.below hb Y2.out.lt)
  have Z3 := Lib.hid (Y3.out.below hb Y3.out.lt)
  have B2 := Lib.hid (B1.out.trans (hb.mono B1.out.size))
  clear hb Y1 Y2 Y3 B1
  have U1 := Lib.hid (show Box (putC w2 (w.heap.size + 1 + 1) 3 (pcs x.map)) w.heap.size (cc x) from Z1.out.kept (putC_heap _ _ _ _ _ (by omega)))
  have U2 := Lib.hid (show Box (putC w2 (w.heap.size + 1 + 1) 3 (pcs x.map)) (w.heap.size + 1) _ from Z2.out.kept (putC_heap _ _ _ _ _ (by omega)))
  have U3 := Lib.hid (Box.mid (p := ch x) (q := [.int .i64 0, .int .i64 0, .int .i64 0, .bool false]) Z3.out (pcs x.map) 3 rfl (by rw [cmap_len]; rfl))
  have B3 := Lib.hid (putC_below B2.out (w.heap.size + 1 + 1) 3 (by omega) (pcs x.map))
  have HM3 := Lib.hid (Box.may_mid (p := ch x) (q := [.int .i64 0, .int .i64 0, .int .i64 0, .bool false]) Z3.out 3 24 rfl rfl)
  clear Z1 Z2 Z3 B2
  go_upto_region 6 with (refine wpList_store_cs rfl _ _ rfl rfl aggMap rfl (pcs x.map) rfl (cmap_len x) (pcs_one x.map) (by rw [cmap_len]; exact HM3.out) ?_)
  generalize putC w2 (w.heap.size + 1 + 1) 3 (pcs x.map) = W3 at U1 U2 U3 B3 ⊢
  clear HM3
  obtain ⟨-, -, -, n3, n4, n5, n6⟩ := ccBox (x := x) U1.out
  go_wp2_with fail
  refine (toPtr_any x.home _).mono ?_
  rintro e w4 ⟨rfl, hb⟩
  have V1 := Lib.hid (U1.out.below hb U1.out.lt)
  have V2 := Lib.hid (U2.out.below hb U2.out.lt)
  have V3 := Lib.hid (show Box w4 (w.heap.size + 1 + 1) ((ch x ++ pcs x.map) ++ [.int .i64 0, .int .i64 0, .int .i64 0] ++ [.bool false]) from by simpa using U3.out.below hb U3.out.lt)
  have B4 := Lib.hid (B3.out.trans (hb.mono B3.out.size))
  clear hb U1 U2 U3 B3 n3 n4 n5 n6
  have S1 := Lib.hid (show Box (putC w4 (w.heap.size + 1 + 1) 27 (pc x.home)) w.heap.size (cc x) from V1.out.kept (putC_heap _ _ _ _ _ (by omega)))
  have S2 := Lib.hid (show Box (putC w4 (w.heap.size + 1 + 1) 27 (pc x.home)) (w.heap.size + 1) _ from V2.out.kept (putC_heap _ _ _ _ _ (by omega)))
  have S3 := Lib.hid (Box.mid (p := ch x ++ pcs x.map) (q := [.bool false]) V3.out (pc x.home) 27 (chm_len x) rfl)
  have B5 := Lib.hid (putC_below B4.out (w.heap.size + 1 + 1) 27 (by omega) (pc x.home))
  have HM5 := Lib.hid (Box.may_mid (p := ch x ++ pcs x.map) (q := [.bool false]) V3.out 27 3 (chm_len x) rfl)
  clear V1 V2 V3 B4
  go_upto_region 7 with (refine wpList_store_cs rfl _ _ rfl rfl aggPtrI rfl (pc x.home) rfl rfl (pc_one x.home) HM5.out ?_)
  generalize putC w4 (w.heap.size + 1 + 1) 27 (pc x.home) = W5 at S1 S2 S3 B5 ⊢
  clear HM5
  obtain ⟨-, -, -, -, -, -, n6⟩ := ccBox (x := x) S1.out
  have k6 := Box.part (p := ch x ++ pcs x.map ++ pc x.home) (m := [.bool false]) (q := []) (by simpa using S3.out) 30 (by simp [ch, pc, cmap_len]) 0 _ rfl
  have q6 := S3.out.open_ 30
  have R2 := Lib.hid (S2.out.other (p := ⟨w.heap.size + 1 + 1, 30, none⟩) (by simp) (.bool x.dirty))
  have R3 := Lib.hid (show Box (W5.setCell ⟨w.heap.size + 1 + 1, 30, none⟩ (.bool x.dirty)) (w.heap.size + 1 + 1) (cc x) from by
    have h1 := Box.mid (p := ch x ++ pcs x.map ++ pc x.home) (old := [.bool false]) (q := []) (by simpa using S3.out) [.bool x.dirty] 30 (by simp [ch, pc, cmap_len]) rfl
    rw [cc_home]
    simpa [putC] using h1)
  have B6 := Lib.hid (B5.out.setCell (p := ⟨w.heap.size + 1 + 1, 30, none⟩) (by simp; omega) (.bool x.dirty))
  clear S1 S2 S3 B5
  go_upto_region 8 with fail
  generalize W5.setCell ⟨w.heap.size + 1 + 1, 30, none⟩ (.bool x.dirty) = W6 at R2 R3 B6 ⊢
  clear n6 k6 q6
  have HPF := Lib.hid (Box.putAll R2.out (cc x) (by rw [cc_length]; rfl))
  have HBF := Lib.hid (putC_below B6.out (w.heap.size + 1) 0 (by omega) (cc x))
  go_wp2_with (first | (refine wpList_load_box rfl _ rfl aggSet rfl (cc x) (cc_length x) R3.out ?_) | (refine wpList_store_box rfl _ _ rfl rfl aggSet rfl (cc x) rfl (cc_length x) (cc_one x) _ R2.out rfl ?_; generalize putC W6 (w.heap.size + 1) 0 (cc x) = WF at HPF HBF ⊢))
  refine bodyPost_ret (results_box rfl _ (w.heap.size + 1) (cc x) aggSet (cc_length x) rfl HPF.out) rfl ⟨rfl, HBF.out⟩
end Go.Proofs.YtojjenclcidnkaaGreatDoor

/-
  Lists of sets of the core: the laws' helpers on them.
-/
set_option maxRecDepth 100000
namespace Go.Proofs.Palim
open Go
theorem own_putC : ∀ (vs : List Value) {w : World} {base e sz g n cap : Nat} {xs : List Value} (_ : w.ownsRow base e sz (.slice (some ⟨g, 0, none⟩) n cap) n xs) (off : Nat) (_ : off + vs.length ≤ xs.length),
    (putC w g off vs).ownsRow base e sz (.slice (some ⟨g, 0, none⟩) n cap) n (xs.take off ++ vs ++ xs.drop (off + vs.length))
  | [], w, base, e, sz, g, n, cap, xs, h, off, hl => by
    rw [putC, List.append_nil, List.length_nil, Nat.add_zero, List.take_append_drop]
    exact h
  | v :: r, w, base, e, sz, g, n, cap, xs, h, off, hl => by
    simp only [List.length_cons] at hl
    have h1 := own_putC r (own_setN h off v) (off + 1) (by rw [List.length_set]; omega)
    rw [putC]
    have e1 : (xs.set off v).take (off + 1) = xs.take off ++ [v] := take_set_succ xs off v (by omega)
    have e2 : (xs.set off v).drop (off + 1 + r.length) = xs.drop (off + (r.length + 1)) := by
      rw [List.drop_set, if_pos (by omega)]
      congr 1; omega
    rw [e1, e2] at h1
    simpa using h1
end Go.Proofs.Palim
namespace Go.Proofs.YtojjenclcidnkaaGreatDoor
open Go.ChangeShapes Go.WideShapes Go.ChangeAt Go.RowKit Go.Proofs.Palim

set_option maxHeartbeats 1000000 in
theorem eqCoreSet_same (x : CSetM) (w : World) :
    Calls Tryz.prog 84 #[.agg (cc x).toArray, .agg (cc x).toArray] w fun e w' => e = .returned (.bool true) ∧ Below w.heap.size w w' := by
  have hnot : ∀ (x : Bool) (w : World), (Op.unary .not (.bool x)).run Tryz.prog w = .ok (.bool (!x)) w := fun _ _ => rfl
  obtain ⟨b1, b2, hsz, hB⟩ := box2 w (cc x).toArray (cc x).toArray 70 70
  have X1 := Lib.hid b1
  have X2 := Lib.hid b2
  have B0 := Lib.hid hB
  clear b1 b2 hB hsz
  obtain ⟨n0, n1, n2, -, -, -, -⟩ := ccBox (x := x) X1.out
  obtain ⟨m0, m1, m2, -, -, -, -⟩ := ccBox (x := x) X2.out
  have hq1 : (x.name.toList == x.name.toList) = true := by simp
  have hq2 : (x.frm.toList == x.frm.toList) = true := by simp
  go_enter Tryz.func84, Tryz.ntmps84
  go_wp2_with (first | (refine wpList_load_cs rfl _ rfl aggMap rfl (pcs x.map) (cmap_len x) (Box.part (p := ch x) (m := pcs x.map) (q := pc x.home ++ [.bool x.dirty]) X1.out 3 rfl) ?_) | (refine wpList_load_cs rfl _ rfl aggMap rfl (pcs x.map) (cmap_len x) (Box.part (p := ch x) (m := pcs x.map) (q := pc x.home ++ [.bool x.dirty]) X2.out 3 rfl) ?_))
  refine (eqPtrA8_same x.map _ x.h8).mono ?_
  rintro e w1 ⟨rfl, hb⟩
  have Y1 := Lib.hid (Box.below (vs := cc x) X1.out hb X1.out.lt)
  have Y2 := Lib.hid (Box.below (vs := cc x) X2.out hb X2.out.lt)
  have B1 := Lib.hid (B0.out.trans (hb.mono B0.out.size))
  clear hb X1 X2 B0 n0 n1 n2 m0 m1 m2
  obtain ⟨-, -, -, n3, n4, n5, -⟩ := ccBox Y1.out
  obtain ⟨-, -, -, m3, m4, m5, -⟩ := ccBox Y2.out
  go_wp2_with fail
  refine (eqPtr_same x.home _).mono ?_
  rintro e w2 ⟨rfl, hb⟩
  have Z1 := Lib.hid (Y1.out.below hb Y1.out.lt)
  have Z2 := Lib.hid (Y2.out.below hb Y2.out.lt)
  have B2 := Lib.hid (B1.out.trans (hb.mono B1.out.size))
  clear hb Y1 Y2 B1 n3 n4 n5 m3 m4 m5
  obtain ⟨-, -, -, -, -, -, n6⟩ := ccBox Z1.out
  obtain ⟨-, -, -, -, -, -, m6⟩ := ccBox Z2.out
  have hd : (x.dirty != x.dirty) = false := by simp
  go_wp2
  go_ret
  exact ⟨rfl, B2.out⟩

/-- How much of the room a set takes. -/
def csz (x : CSetM) : Nat := x.name.size + x.frm.size
set_option maxHeartbeats 1000000 in
theorem szCoreSet_any (x : CSetM) (left : Int) (w : World) (hn : x.name.size ≤ maxLen) (hf : x.frm.size ≤ maxLen) (h0 : 0 ≤ left) (h1 : left ≤ 1048576) :
    Calls Tryz.prog 90 #[.agg (cc x).toArray, .int .i64 left] w fun e w' => (∃ r : Int, e = .returned (.int .i64 r) ∧ (r = -1 ∨ 0 ≤ r ∧ r + csz x = left)) ∧ Below w.heap.size w w' := by
  unfold maxLen at hn hf
  have X1 := Lib.hid (box_new w (cc x).toArray 145)
  have B0 := Lib.hid ((Below.refl w.heap.size w).alloc (Nat.le_refl _) (.cells (cc x).toArray 145))
  obtain ⟨n0, -, n2, -, -, -, -⟩ := ccBox (x := x) X1.out
  by_cases ha : left < x.name.size
  · go_enter Tryz.func90, Tryz.ntmps90
    go_wp2
    go_ret
    exact ⟨⟨-1, rfl, Or.inl rfl⟩, B0.out⟩
  by_cases hb : left - x.name.size < x.frm.size
  · go_enter Tryz.func90, Tryz.ntmps90
    go_wp2
    go_ret
    exact ⟨⟨-1, rfl, Or.inl rfl⟩, B0.out⟩
  · go_enter Tryz.func90, Tryz.ntmps90
    go_wp2
    go_ret
    exact ⟨⟨_, rfl, Or.inr ⟨by omega, by unfold csz; omega⟩⟩, B0.out⟩

def ccs (ls : List CSetM) : List Value := ls.flatMap cc
theorem ccs_length (ls : List CSetM) : (ccs ls).length = ls.length * 31 := by
  induction ls with
  | nil => rfl
  | cons x ls ih => simp [ccs, cc_length] at ih ⊢; omega
theorem ccs_snoc (a : List CSetM) (x : CSetM) : ccs (a ++ [x]) = ccs a ++ cc x := by simp [ccs]
theorem ccs_at (ls : List CSetM) : ∀ (k : Nat) (h : k < ls.length) (j : Nat), j < 31 → (ccs ls)[k * 31 + j]? = (cc ls[k])[j]? := by
  induction ls with
  | nil => intro k h; simp at h
  | cons x ls ih =>
    intro k h j hj
    have e : ccs (x :: ls) = cc x ++ ccs ls := by simp [ccs]
    cases k with
    | zero => rw [e, Nat.zero_mul, Nat.zero_add, List.getElem?_append_left (by rw [cc_length]; exact hj)]; rfl
    | succ k =>
      rw [e, List.getElem?_append_right (by rw [cc_length]; omega), cc_length, show (k + 1) * 31 + j - 31 = k * 31 + j by omega]
      exact ih k (by simpa using h) j hj
theorem cset_read {w : World} {ls : List CSetM} {b off : Nat} (hc : ∀ j u, (ccs ls)[j]? = some u → w.cell? ⟨b, off + j, none⟩ = some u) (k : Nat) (h : k < ls.length) : ∀ j u, (cc ls[k])[j]? = some u → w.cell? ⟨b, off + k * 31 + j, none⟩ = some u := by
  intro j u hu
  have hj : j < 31 := by rw [← cc_length ls[k]]; exact (List.getElem?_eq_some_iff.1 hu).1
  rw [Nat.add_assoc]
  exact hc _ _ ((ccs_at ls k h j hj).trans hu)
theorem infoCSet : (Tryz.prog.info? 70).map (fun i => (i.zero, i.size, i.bytes)) = some (some (.agg #[.string ⟨#[]⟩, .int .i64 0, .string ⟨#[]⟩, .int .i64 0, .int .i64 0, .int .i64 0, .int .i64 0, .int .i64 0, .int .i64 0, .int .i64 0, .int .i64 0, .int .i64 0, .int .i64 0, .int .i64 0, .int .i64 0, .int .i64 0, .int .i64 0, .int .i64 0, .int .i64 0, .int .i64 0, .int .i64 0, .int .i64 0, .int .i64 0, .int .i64 0, .int .i64 0, .int .i64 0, .int .i64 0, .int .i64 0, .int .i64 0, .int .i64 0, .bool false]), 31, 264) := by kernel_rfl
def NewCSets (w : World) (ls : List CSetM) (e : Ending) (w' : World) : Prop :=
  ∃ v, e = .returned v ∧ w'.ownsRow w.heap.size 70 31 v ls.length (ccs ls) ∧ Below w.heap.size w w'

set_option maxHeartbeats 2000000 in
theorem toCoreSetS_any (v : Value) (ls : List CSetM) (w : World) (h : Sl w 31 v ls.length (ccs ls)) (hv : ∀ b, v.ownBlock = some b → b < w.heap.size) (hs : ls.length ≤ 1048576) :
    Calls Tryz.prog 58 #[v] w (NewCSets w ls) := by
  obtain ⟨i0, hi, hz0, hz1, hz2⟩ := info_parts infoCSet
  obtain ⟨n, HN⟩ : ∃ n, Hid (ls.length = n) := ⟨_, Lib.hid rfl⟩
  rw [HN.out] at h hs
  by_cases hn : n = 0
  · subst hn
    have HE := Lib.hid (List.length_eq_zero_iff.1 HN.out)
    obtain ⟨_, A, c, rfl, _, _, _⟩ := h
    clear hv
    go_enter Tryz.func58, Tryz.ntmps58
    go_wp2_with (first | (at_make; refine wpList_make_full _ rfl _ _ 41 rfl w.heap.size 70 i0 (.agg #[.string ⟨#[]⟩, .int .i64 0, .string ⟨#[]⟩, .int .i64 0, .int .i64 0, .int .i64 0, .int .i64 0, .int .i64 0, .int .i64 0, .int .i64 0, .int .i64 0, .int .i64 0, .int .i64 0, .int .i64 0, .int .i64 0, .int .i64 0, .int .i64 0, .int .i64 0, .int .i64 0, .int .i64 0, .int .i64 0, .int .i64 0, .int .i64 0, .int .i64 0, .int .i64 0, .int .i64 0, .int .i64 0, .int .i64 0, .int .i64 0, .int .i64 0, .bool false]) 31 Tryz.underlying41 hi hz0 hz1 _ _ _ _ 0 rfl rfl (by omega) (by omega) (by omega) (by unfold maxLen; omega) (Nat.le_refl _) ?_))
    intro w1 hown hgrow
    have HOW := Lib.hid hown
    have HGR := Lib.hid hgrow
    clear hown hgrow
    go_wp2
    go_loopw [4] (fun i wr => i = .int .i64 0 ∧ wr = w1) (fun _ _ => 0)
    case atStart => exact ⟨rfl, rfl⟩
    case round =>
      obtain ⟨rfl, rfl⟩ := hrel
      go_wp2
      go_ret
      refine ⟨_, rfl, ?_, (Below.refl _ _).grown HGR.out (Nat.le_refl _) (fun _ h => by cases h)⟩
      rw [HE.out]
      have h2 := HOW.out
      rw [List.length_eq_zero_iff.1 (HOW.out.1.trans (Nat.zero_mul _))] at h2
      exact h2
  · obtain ⟨b, off, c, rfl, hnc, hcm, hcell⟩ := h.form (by omega)
    have hbl : b < w.heap.size := hv b rfl
    have HC := Lib.hid hcell
    unfold maxLen at hcm
    clear hcell h hv
    go_enter Tryz.func58, Tryz.ntmps58
    go_wp2_with (first | (at_make; refine wpList_make_full _ rfl _ _ 41 rfl w.heap.size 70 i0 (.agg #[.string ⟨#[]⟩, .int .i64 0, .string ⟨#[]⟩, .int .i64 0, .int .i64 0, .int .i64 0, .int .i64 0, .int .i64 0, .int .i64 0, .int .i64 0, .int .i64 0, .int .i64 0, .int .i64 0, .int .i64 0, .int .i64 0, .int .i64 0, .int .i64 0, .int .i64 0, .int .i64 0, .int .i64 0, .int .i64 0, .int .i64 0, .int .i64 0, .int .i64 0, .int .i64 0, .int .i64 0, .int .i64 0, .int .i64 0, .int .i64 0, .int .i64 0, .bool false]) 31 Tryz.underlying41 hi hz0 hz1 _ _ _ _ n rfl rfl rfl rfl (by rw [hz2]; omega) (by unfold maxLen; omega) (Nat.le_refl _) ?_))
    intro w1 hown hgrow
    have HOW := Lib.hid hown
    have HB0 := Lib.hid ((Below.refl w.heap.size w).grown hgrow (Nat.le_refl _) (fun _ h => by cases h))
    clear hown hgrow
    generalize (madeCells (Value.agg #[.string ⟨#[]⟩, .int .i64 0, .string ⟨#[]⟩, .int .i64 0, .int .i64 0, .int .i64 0, .int .i64 0, .int .i64 0, .int .i64 0, .int .i64 0, .int .i64 0, .int .i64 0, .int .i64 0, .int .i64 0, .int .i64 0, .int .i64 0, .int .i64 0, .int .i64 0, .int .i64 0, .int .i64 0, .int .i64 0, .int .i64 0, .int .i64 0, .int .i64 0, .int .i64 0, .int .i64 0, .int .i64 0, .int .i64 0, .int .i64 0, .int .i64 0, .bool false]).cells (n * 31)).toList = xs0 at HOW
    go_wp2
    go_loopw [4] (fun i wr => ∃ (k : Nat) (xs : List Value), k ≤ n ∧ i = .int .i64 k ∧ Hid (wr.ownsRow w.heap.size 70 31 (.slice (some ⟨w.heap.size, 0, none⟩) n n) n xs) ∧ Hid (xs.take (k * 31) = ccs (ls.take k)) ∧ Hid (Below w.heap.size w wr)) (fun i _ => n - (intOf i).toNat)
    case atStart => exact ⟨0, _, Nat.zero_le _, rfl, HOW, Lib.hid rfl, HB0⟩
    case round =>
      obtain ⟨k, xs, hk, rfl, HO, HT, HB⟩ := hrel
      clear HOW HB0
      by_cases hlt : k < n
      · have hlt' : k < ls.length := by rw [HN.out]; exact hlt
        have hrd := cset_read (fun j u hu => (HB.out.cell hbl).trans (HC.out j u hu)) k hlt'
        obtain ⟨x, HX⟩ : ∃ x, Hid (x = ls[k]) := ⟨_, Lib.hid rfl⟩
        rw [← HX.out] at hrd
        have HRD := Lib.hid hrd
        have hk1 : (k : Int) < (n : Int) := by omega
        clear hrd
        go_wp2_with (refine wpList_load_cs rfl _ rfl aggSetL rfl (cc x) (cc_length x) HRD.out ?_)
        refine (toCoreSet_any x _).mono ?_
        rintro e w2 ⟨rfl, hb2⟩
        have HB1 := Lib.hid (HB.out.trans (hb2.mono HB.out.size))
        have HO1 := Lib.hid (own_kept HO.out (w' := w2) (fun b e => hb2.block b (by have := HO.out.lt b e; omega)))
        have hxl : xs.length = n * 31 := HO.out.1
        have HM := Lib.hid (show ∀ j, j < (cc x).length → (∃ u, w2.cell? ⟨w.heap.size, k * 31 + 0 + j, none⟩ = some u) ∧ w2.frozen? ⟨w.heap.size, k * 31 + 0 + j, none⟩ = false from fun j hj => by
          rw [cc_length] at hj
          obtain ⟨⟨u, _, hc⟩, hf, _, _⟩ := own_at HO1.out (k * 31 + 0 + j) (by omega)
          exact ⟨⟨u, hc⟩, hf⟩)
        have HO2 := Lib.hid (own_putC (cc x) HO1.out (k * 31) (by rw [cc_length]; omega))
        have HB2 := Lib.hid (putC_below HB1.out w.heap.size (k * 31) (Nat.le_refl _) (cc x))
        have HT2 := Lib.hid (show (xs.take (k * 31) ++ cc x ++ xs.drop (k * 31 + (cc x).length)).take ((k + 1) * 31) = ccs (ls.take (k + 1)) from by
          rw [HT.out, List.take_left' (by rw [List.length_append, ccs_length, cc_length, List.length_take]; omega), List.take_succ_eq_append_getElem hlt', ccs_snoc, ← HX.out])
        clear hb2 HO HO1 HB HB1 HT HRD
        go_wp2_with (refine wpList_store_cs rfl _ _ rfl rfl aggSet rfl (cc x) rfl (cc_length x) (cc_one x) HM.out ?_; generalize putC w2 w.heap.size (k * 31) (cc x) = W2 at HO2 HB2 ⊢)
        go_roundw
        case rel => exact ⟨k + 1, _, by omega, by go_num, HO2, HT2, HB2⟩
        case measure => simp [intOf]; omega
      · have hkn : k = n := by omega
        have HX := Lib.hid (show xs = ccs ls from by
          have hl := HO.out.1
          have ht := HT.out
          rw [List.take_of_length_le (by omega), List.take_of_length_le (by rw [HN.out]; omega)] at ht
          exact ht)
        clear hkn
        go_wp2
        go_ret
        refine ⟨_, rfl, ?_, HB.out⟩
        rw [HN.out, ← HX.out]
        exact HO.out

set_option maxHeartbeats 2000000 in
theorem eqCoreSetS_same (va vb : Value) (ls : List CSetM) (w : World) (ha : Sl w 31 va ls.length (ccs ls)) (hb : Sl w 31 vb ls.length (ccs ls)) (hva : ∀ b, va.ownBlock = some b → b < w.heap.size) (hvb : ∀ b, vb.ownBlock = some b → b < w.heap.size) (hs : ls.length ≤ 1048576) :
    Calls Tryz.prog 33 #[va, vb] w fun e w' => e = .returned (.bool true) ∧ Below w.heap.size w w' := by
  obtain ⟨n, HN⟩ : ∃ n, Hid (ls.length = n) := ⟨_, Lib.hid rfl⟩
  rw [HN.out] at ha hb hs
  have hnot : ∀ (x : Bool) (w : World), (Op.unary .not (.bool x)).run Tryz.prog w = .ok (.bool (!x)) w := fun _ _ => rfl
  by_cases hn : n = 0
  · subst hn
    obtain ⟨_, A, c, rfl, _, _, _⟩ := ha
    obtain ⟨_, A', c', rfl, _, _, _⟩ := hb
    clear hva hvb
    go_enter Tryz.func33, Tryz.ntmps33
    go_wp2
    go_loopw [5] (fun i wr => i = .int .i64 0 ∧ wr = w) (fun _ _ => 0)
    case atStart => exact ⟨rfl, rfl⟩
    case round =>
      obtain ⟨rfl, rfl⟩ := hrel
      go_wp2
      go_ret
      exact ⟨rfl, Below.refl _ _⟩
  · obtain ⟨b, off, c, rfl, hnc, hcm, hcell⟩ := ha.form (by omega)
    obtain ⟨b', off', c', rfl, hnc', hcm', hcell'⟩ := hb.form (by omega)
    have hbl : b < w.heap.size := hva b rfl
    have hbl' : b' < w.heap.size := hvb b' rfl
    have HC := Lib.hid hcell
    have HC' := Lib.hid hcell'
    unfold maxLen at hcm hcm'
    clear hcell hcell' ha hb hva hvb
    go_enter Tryz.func33, Tryz.ntmps33
    go_wp2
    go_loopw [5] (fun i wr => ∃ (k : Nat), k ≤ n ∧ i = .int .i64 k ∧ Hid (Below w.heap.size w wr)) (fun i _ => n - (intOf i).toNat)
    case atStart => exact ⟨0, Nat.zero_le _, rfl, Lib.hid (Below.refl _ _)⟩
    case round =>
      obtain ⟨k, hk, rfl, HB⟩ := hrel
      by_cases hlt : k < n
      · have hlt' : k < ls.length := by rw [HN.out]; exact hlt
        have hrd := cset_read (fun j u hu => (HB.out.cell hbl).trans (HC.out j u hu)) k hlt'
        have hrd' := cset_read (fun j u hu => (HB.out.cell hbl').trans (HC'.out j u hu)) k hlt'
        have hbr : b < wr.heap.size := Nat.lt_of_lt_of_le hbl HB.out.size
        have hbr' : b' < wr.heap.size := Nat.lt_of_lt_of_le hbl' HB.out.size
        generalize ls[k] = y at hrd hrd'
        have hk1 : (k : Int) < (n : Int) := by omega
        go_wp2_with fail
        refine wp_region_held_drew (S := fun w' => (∀ j u, (cc y)[j]? = some u → w'.cell? ⟨b, off + k * 31 + j, none⟩ = some u) ∧ (∀ j u, (cc y)[j]? = some u → w'.cell? ⟨b', off' + k * 31 + j, none⟩ = some u)) (by kernel_rfl) ⟨hrd, hrd'⟩ (fun hHeld => ?_)
        refine wpAnyH_take (i := 0) (v := ?_) rfl (by kernel_rfl) (by kernel_rfl) (by kernel_rfl) (fun _ _ _ h => h) (Or.inl ⟨by first | kernel_rfl | rfl, ?_⟩) (by assumption) ?_
        rotate_left
        · (intro w' hSw; clear hSw; go_simp; try with_reducible rfl)
        try simp only [Act.put]
        refine wpAnyH_take (i := 1) (v := ?_) rfl (by kernel_rfl) (by kernel_rfl) (by kernel_rfl) (fun _ _ _ h => h) (Or.inl ⟨by first | kernel_rfl | rfl, ?_⟩) (by assumption) ?_
        rotate_left
        · (intro w' hSw; clear hSw; go_simp; try with_reducible rfl)
        try simp only [Act.put]
        refine wpAnyH_take (i := 2) (v := ?_) rfl (by kernel_rfl) (by kernel_rfl) (by kernel_rfl) (fun _ _ _ h => h) (Or.inl ⟨by first | kernel_rfl | rfl, ?_⟩) (by assumption) ?_
        rotate_left
        · (intro w' hSw; clear hSw; go_simp; try with_reducible rfl)
        try simp only [Act.put]
        refine wpAnyH_take (i := 3) (v := .agg (cc y).toArray) rfl (by kernel_rfl) (by kernel_rfl) (by kernel_rfl) (fun _ _ _ h => h) (Or.inl ⟨by first | kernel_rfl | rfl, fun w' hSw => exec_load_cs _ rfl aggSet rfl (cc y) (cc_length y) hSw.1⟩) (by assumption) ?_
        try simp only [Act.put]
        refine wpAnyH_take (i := 4) (v := ?_) rfl (by kernel_rfl) (by kernel_rfl) (by kernel_rfl) (fun _ _ _ h => h) (Or.inl ⟨by first | kernel_rfl | rfl, ?_⟩) (by assumption) ?_
        rotate_left
        · (intro w' hSw; clear hSw; go_simp; try with_reducible rfl)
        try simp only [Act.put]
        refine wpAnyH_take (i := 5) (v := ?_) rfl (by kernel_rfl) (by kernel_rfl) (by kernel_rfl) (fun _ _ _ h => h) (Or.inl ⟨by first | kernel_rfl | rfl, ?_⟩) (by assumption) ?_
        rotate_left
        · (intro w' hSw; clear hSw; go_simp; try with_reducible rfl)
        try simp only [Act.put]
        refine wpAnyH_take (i := 6) (v := ?_) rfl (by kernel_rfl) (by kernel_rfl) (by kernel_rfl) (fun _ _ _ h => h) (Or.inl ⟨by first | kernel_rfl | rfl, ?_⟩) (by assumption) ?_
        rotate_left
        · (intro w' hSw; clear hSw; go_simp; try with_reducible rfl)
        try simp only [Act.put]
        refine wpAnyH_take (i := 7) (v := .agg (cc y).toArray) rfl (by kernel_rfl) (by kernel_rfl) (by kernel_rfl) (fun _ _ _ h => h) (Or.inl ⟨by first | kernel_rfl | rfl, fun w' hSw => exec_load_cs _ rfl aggSet rfl (cc y) (cc_length y) hSw.2⟩) (by assumption) ?_
        try simp only [Act.put]
        refine wpAnyH_ready (rs := [8]) (by kernel_rfl) (by simp) ?_
        refine AllReadyH.cons rfl (fun K hK => ?_) AllReadyH.nil
        go_simp
        go_at_call 84
        refine (eqCoreSet_same y _).mono ?_
        rintro e w2 ⟨rfl, hb2⟩
        go_wp2_with fail
        refine hK.out _ _ ⟨fun j u hu => (hb2.cell (by exact hbr)).trans (hrd j u hu), fun j u hu => (hb2.cell (by exact hbr')).trans (hrd' j u hu)⟩ (fun hHeld2 => ?_)
        clear hK K
        try simp only [Act.put]
        refine wpAnyH_take (i := 9) (v := ?_) rfl (by kernel_rfl) (by kernel_rfl) (by kernel_rfl) (fun _ _ _ h => h) (Or.inl ⟨by first | kernel_rfl | rfl, ?_⟩) (by assumption) ?_
        rotate_left
        · (intro w' hSw; clear hSw; go_simp; try with_reducible rfl)
        try simp only [Act.put]
        refine wpAnyH_done (by kernel_rfl) ?_ _
        go_simp
        clear hHeld hHeld2
        have HB2 := Lib.hid (HB.out.drew.trans (hb2.mono HB.out.size))
        clear HB hb2 hrd hrd'
        go_wp2
        go_roundw
        case rel => exact ⟨k + 1, by omega, by go_num, HB2⟩
        case measure => simp [intOf]; omega
      · go_wp2
        go_ret
        exact ⟨rfl, HB.out⟩
end Go.Proofs.YtojjenclcidnkaaGreatDoor

/-
  Disks compared, sized, marked, asked for marks.
-/
set_option maxRecDepth 100000
namespace Go.Proofs.YtojjenclcidnkaaGreatDoor
open Go.ChangeShapes Go.WideShapes Go.ChangeAt Go.RowKit Go.Proofs.Palim

set_option maxHeartbeats 400000 in
theorem eqDisk_same (a0 a1 al b0 b1 bl : Value) (d : DiskM) (w : World) (ha : DiskR w a0 a1 al d) (hb : DiskR w b0 b1 bl d) (hs : DiskShort d) :
    Calls Tryz.prog 26 #[.agg #[a0, a1, al], .agg #[b0, b1, bl]] w fun e w' => e = .returned (.bool true) ∧ Below w.heap.size w w' := by
  have hnot : ∀ (x : Bool) (w : World), (Op.unary .not (.bool x)).run Tryz.prog w = .ok (.bool (!x)) w := fun _ _ => rfl
  have HA := Lib.hid ha
  have HC := Lib.hid hb
  have HS := Lib.hid hs
  clear ha hb hs
  go_enter Tryz.func26, Tryz.ntmps26
  go_wp2_with fail
  obtain ⟨hA, hC, hsz, hB⟩ := box2 w #[a0, a1, al] #[b0, b1, bl] 40 40
  have HA1 := Lib.hid (HA.out.below hB)
  have HC1 := Lib.hid (HC.out.below hB)
  refine (eqStringSA2_same a0 a1 b0 b1 d.s0 d.s1 _ HA1.out.r0 HA1.out.r1 HC1.out.r0 HC1.out.r1 HA1.out.l0 HA1.out.l1 HC1.out.l0 HC1.out.l1 HS.out.n0 HS.out.n1).mono ?_
  rintro e w2 ⟨rfl, hb⟩
  have HX := Lib.hid (hA.below hb (by omega))
  have HY := Lib.hid (hC.below hb (by omega))
  have HB := Lib.hid (hB.trans (hb.mono (by omega)))
  have HA2 := Lib.hid (HA1.out.below hb)
  have HC2 := Lib.hid (HC1.out.below hb)
  clear hA hC hsz hB hb HA1 HC1
  obtain ⟨x0, x1, x2⟩ := HX.out.three
  obtain ⟨y0, y1, y2⟩ := HY.out.three
  go_wp2_with fail
  refine (eqDiskLateS_same al bl d.late _ HA2.out.rl HC2.out.rl HA2.out.ll HC2.out.ll HS.out.nl).mono ?_
  rintro e w3 ⟨rfl, hb⟩
  have HB3 := Lib.hid (HB.out.trans (hb.mono HB.out.size))
  clear hb HB HX HY HA2 HC2 x0 x1 x2 y0 y1 y2
  go_wp2
  go_ret
  exact ⟨rfl, HB3.out⟩

def dsz (d : DiskM) : Nat := d.s0.length + tot d.s0 + (d.s1.length + tot d.s1) + (d.late.length + tot (d.late.map (·.text)))

set_option maxHeartbeats 400000 in
theorem szDisk_any (a0 a1 al : Value) (d : DiskM) (left : Int) (w : World) (ha : DiskR w a0 a1 al d) (hz0 : ∀ s ∈ d.s0, s.size ≤ maxLen) (hz1 : ∀ s ∈ d.s1, s.size ≤ maxLen) (hzl : ∀ x ∈ d.late, x.text.size ≤ maxLen) (hl0 : 0 ≤ left) (hl1 : left ≤ 1048576) :
    Calls Tryz.prog 15 #[.agg #[a0, a1, al], .int .i64 left] w fun e w' => (∃ r : Int, e = .returned (.int .i64 r) ∧ (r = -1 ∨ 0 ≤ r ∧ r + (dsz d : Nat) = left)) ∧ Below w.heap.size w w' := by
  have HA := Lib.hid ha
  have HZ0 := Lib.hid hz0
  have HZ1 := Lib.hid hz1
  have HZL := Lib.hid hzl
  clear ha hz0 hz1 hzl
  go_enter Tryz.func15, Tryz.ntmps15
  go_wp2_with fail
  obtain ⟨hA, hsz, hB⟩ := box1 w #[a0, a1, al] 26
  have HA1 := Lib.hid (HA.out.below hB)
  refine (szStringSA2_any a0 a1 d.s0 d.s1 left _ HA1.out.r0 HA1.out.r1 HA1.out.l0 HA1.out.l1 HZ0.out HZ1.out hl0 hl1).mono ?_
  rintro e w2 ⟨⟨r, rfl, hr⟩, hb⟩
  have HX := Lib.hid (hA.below hb (by omega))
  have HB := Lib.hid (hB.trans (hb.mono (by omega)))
  have HA2 := Lib.hid (HA1.out.below hb)
  clear hA hsz hB hb HA1
  obtain ⟨x0, x1, x2⟩ := HX.out.three
  rcases hr with rfl | ⟨hr0, hr1⟩
  · go_wp2
    go_ret
    exact ⟨⟨-1, rfl, Or.inl rfl⟩, HB.out⟩
  · have hr2 : ¬ r < 0 := by omega
    have hr3 : r ≤ 1048576 := by omega
    have HR := Lib.hid hr1
    clear hr1
    go_wp2_with fail
    refine (szDiskLateS_any al d.late r _ HA2.out.rl HA2.out.ll HZL.out hr0 hr3).mono ?_
    rintro e w3 ⟨⟨q, rfl, hq⟩, hb⟩
    have HB3 := Lib.hid (HB.out.trans (hb.mono HB.out.size))
    clear hb HB HX HA2 x0 x1 x2
    rcases hq with rfl | ⟨hq0, hq1⟩
    · go_wp2
      go_ret
      exact ⟨⟨-1, rfl, Or.inl rfl⟩, HB3.out⟩
    · have hq2 : ¬ q < 0 := by omega
      have HQ := Lib.hid hq1
      clear hq1
      go_wp2
      go_ret
      exact ⟨⟨q, rfl, Or.inr ⟨hq0, by have := HQ.out; have := HR.out; unfold dsz; omega⟩⟩, HB3.out⟩

/-- The disk of marks from k on. -/
def dmarks (k n0 n1 nl : Nat) : DiskM := ⟨marks k n0, marks (k + n0) n1, lmarks (k + n0 + n1) nl⟩
def DTurns (v0 v1 vl : Value) (b : Nat) : Prop := v0.ownBlock = some b ∨ v1.ownBlock = some b ∨ vl.ownBlock = some b
def MarkedDisk (k : Nat) (v0 v1 vl : Value) (base n0 n1 nl : Nat) (w : World) (e : Ending) (w' : World) : Prop :=
  e = .returned (.int .i64 ((k + n0 + n1 + 3 * nl : Nat) : Int)) ∧ DiskOwn w' base v0 v1 vl (dmarks k n0 n1 nl) ∧ Turned (DTurns v0 v1 vl) w w'

end Go.Proofs.YtojjenclcidnkaaGreatDoor
